/-
  frame.read, whatever stands there.
-/
import Derived.Test.YtkahndjflhgccaaReadA
import Derived.Test.YtkahndjflhgccaaReadB
import Derived.Deep.LoopGhost
import Derived.IntWalk
namespace Go.Proofs.Ytkahndjflhgccaa
section
set_option linter.unusedVariables false
set_option linter.unusedSimpArgs false
open Go.RowKit
set_option maxRecDepth 100000 in
theorem read_big (p : Nat) (T : TypeId) (P : Nat → Prop) (s0 : St) (w : World) (hr : Rdr w p T P s0) (hP : ∀ b, P b → b ≠ p) (hk : 30 < varR s0) :
    Calls Try.prog 43 #[.pointer (some ⟨p, 0, none⟩)] w (ReadPost w p T P s0) := by
  have hpl : p < w.heap.size := by obtain ⟨_, _, _, h, _⟩ := hr; exact h.lt
  have hrA : Rdr (w.alloc (.cells (frL (FN.zero 0) .nil .nil).toArray 31)) p T P s0 := hr.kept ((Kept.refl (fun _ => False) w).alloc _) (fun h => h) (fun _ _ h => h)
  have hA2 : At (w.alloc (.cells (frL (FN.zero 0) .nil .nil).toArray 31)) w.heap.size 31 (frL (FN.zero 0) .nil .nil) := At.new w _ _
  have hK0 : Kept (· = p) w (w.alloc (.cells (frL (FN.zero 0) .nil .nil).toArray 31)) := (Kept.refl _ w).alloc _
  have hb := hr.byt2
  obtain ⟨x, hx⟩ : ∃ x, varR s0 = x := ⟨_, rfl⟩
  have hno : readO s0 = none := by unfold readO; rw [if_pos hk]
  rw [hx] at hb hk
  have HX := Lib.hid hx
  have HNO := Lib.hid hno
  have hd : decide (30 < x) = true := by simpa using hk
  clear hx hno
  go_enter Try.func43, Try.ntmps43
  go_wp2_with fail
  refine (var_any p T P s0 _ hrA hP).mono ?_
  rintro e w1 ⟨rfl, hr1, hk1⟩
  rw [HX.out]
  have hA := hA2.kept hk1 (by omega)
  have hK := hK0.trans hk1
  clear hA2 hK0 hrA hk1
  go_wp2_with (first | ((with_reducible refine at_st (x := .tmp 2) ?_); refine st_at _ _ (frL (FN.zero 0) .nil .nil) (by rfl) (by rfl) hA (by rfl) (by rfl) (by rfl) ?_; intro w9 hA9 hk9) | fail)
  refine bodyPost_ret (results_cell_tmp 2 3 31 (by rfl) _ 31 _ _ _ (by rfl) (by rfl) hA9 Try.underlying31 rfl fr_info) rfl ?_
  exact ReadPost.no HNO.out (hK.trans' hk9 (fun j hj => .inr (by omega)))
theorem read_any (p : Nat) (T : TypeId) (P : Nat → Prop) (s0 : St) (w : World) (hr : Rdr w p T P s0) (hP : ∀ b, P b → b ≠ p) (hl : s0.1.length ≤ 100000000000000) :
    Calls Try.prog 43 #[.pointer (some ⟨p, 0, none⟩)] w (ReadPost w p T P s0) := by
  rcases Int.lt_or_le 30 (varR s0) with h | h
  · exact read_big p T P s0 w hr hP h
  · have hb := hr.byt2
    have hc : varR s0 = 0 ∨ varR s0 = 1 ∨ varR s0 = 2 ∨ varR s0 = 3 ∨ varR s0 = 4 ∨ varR s0 = 5 ∨ varR s0 = 6 ∨ varR s0 = 7 ∨ varR s0 = 8 ∨ varR s0 = 9 ∨ varR s0 = 10 ∨ varR s0 = 11 ∨ varR s0 = 12 ∨ varR s0 = 13 ∨ varR s0 = 14 ∨ varR s0 = 15 ∨ varR s0 = 16 ∨ varR s0 = 17 ∨ varR s0 = 18 ∨ varR s0 = 19 ∨ varR s0 = 20 ∨ varR s0 = 21 ∨ varR s0 = 22 ∨ varR s0 = 23 ∨ varR s0 = 24 ∨ varR s0 = 25 ∨ varR s0 = 26 ∨ varR s0 = 27 ∨ varR s0 = 28 ∨ varR s0 = 29 ∨ varR s0 = 30 := by omega
    rcases hc with h | h | h | h | h | h | h | h | h | h | h | h | h | h | h | h | h | h | h | h | h | h | h | h | h | h | h | h | h | h | h
    · exact read_GA p T P s0 w hr hP hl (by omega)
    · exact read_GA p T P s0 w hr hP hl (by omega)
    · exact read_GA p T P s0 w hr hP hl (by omega)
    · exact read_GA p T P s0 w hr hP hl (by omega)
    · exact read_GA p T P s0 w hr hP hl (by omega)
    · exact read_GA p T P s0 w hr hP hl (by omega)
    · exact read_GB p T P s0 w hr hP hl (by omega)
    · exact read_GA p T P s0 w hr hP hl (by omega)
    · exact read_GB p T P s0 w hr hP hl (by omega)
    · exact read_GB p T P s0 w hr hP hl (by omega)
    · exact read_GB p T P s0 w hr hP hl (by omega)
    · exact read_GB p T P s0 w hr hP hl (by omega)
    · exact read_GB p T P s0 w hr hP hl (by omega)
    · exact read_GB p T P s0 w hr hP hl (by omega)
    · exact read_GB p T P s0 w hr hP hl (by omega)
    · exact read_GB p T P s0 w hr hP hl (by omega)
    · exact read_GA p T P s0 w hr hP hl (by omega)
    · exact read_GA p T P s0 w hr hP hl (by omega)
    · exact read_GA p T P s0 w hr hP hl (by omega)
    · exact read_GA p T P s0 w hr hP hl (by omega)
    · exact read_GA p T P s0 w hr hP hl (by omega)
    · exact read_GA p T P s0 w hr hP hl (by omega)
    · exact read_GA p T P s0 w hr hP hl (by omega)
    · exact read_GA p T P s0 w hr hP hl (by omega)
    · exact read_GB p T P s0 w hr hP hl (by omega)
    · exact read_GA p T P s0 w hr hP hl (by omega)
    · exact read_GB p T P s0 w hr hP hl (by omega)
    · exact read_GB p T P s0 w hr hP hl (by omega)
    · exact read_GB p T P s0 w hr hP hl (by omega)
    · exact read_GA p T P s0 w hr hP hl (by omega)
    · exact read_GA p T P s0 w hr hP hl (by omega)
/-- What one read leaves is less. -/
theorem takeN_ok (s : St) (n : Int) (h : (takeN s n).2 = false) : 0 ≤ n ∧ n ≤ s.1.length ∧ (takeN s n).1 = s.1.drop n.toNat ∧ s.2 = false := by
  unfold takeN at h ⊢
  split at h
  · next hn => rw [if_pos hn]; exact ⟨hn.1, hn.2, rfl, h⟩
  · cases h
theorem varN_ok (s : St) (hb : Byt s.1) (h : (varN s).2 = false) : ∃ n : Nat, 1 ≤ n ∧ n ≤ s.1.length ∧ (varN s).1 = s.1.drop n ∧ s.2 = false := by
  unfold varN at h ⊢
  split at h
  · cases h
  · next hz =>
    rw [if_neg hz]
    have hk := takeN_ok s _ h
    rcases getS_cases s.1 hb with ⟨h0, _⟩ | ⟨h1, _⟩
    · exact absurd h0 hz
    · exact ⟨(getS s.1).2.toNat, by omega, by omega, hk.2.2.1, hk.2.2.2⟩
end
section
set_option linter.unusedVariables false
set_option linter.unusedSimpArgs false
open Go.RowKit
def Sub (s s' : St) : Prop := s'.2 = false → s.2 = false ∧ ∃ n : Nat, n ≤ s.1.length ∧ s'.1 = s.1.drop n
theorem Sub.refl (s : St) : Sub s s := fun h => ⟨h, 0, by omega, by simp⟩
theorem Sub.trans {s s' s'' : St} (h : Sub s s') (k : Sub s' s'') : Sub s s'' := fun hb => by
  obtain ⟨h1, n, hn, e⟩ := k hb
  obtain ⟨h2, m, hm, e2⟩ := h h1
  refine ⟨h2, m + n, ?_, ?_⟩
  · rw [e2, List.length_drop] at hn; omega
  · rw [e, e2, List.drop_drop]
theorem Sub.byt {s s' : St} (h : Sub s s') (hb : Byt s.1) (h0 : s'.2 = false) : Byt s'.1 := by
  obtain ⟨_, n, _, e⟩ := h h0
  rw [e]; exact hb.drop n
theorem sub_take (s : St) (n : Int) : Sub s (takeN s n) := fun h => by
  have := takeN_ok s n h
  exact ⟨this.2.2.2, n.toNat, by omega, this.2.2.1⟩
theorem sub_var (s : St) (hb : Byt s.1) : Sub s (varN s) := fun h => by
  obtain ⟨n, h1, h2, h3, h4⟩ := varN_ok s hb h
  exact ⟨h4, n, h2, h3⟩
theorem sub_text (s : St) (hb : Byt s.1) : Sub s (textN s) := (sub_var s hb).trans (sub_take _ _)
theorem sub_data (s : St) (b : Bool) (hb : Byt s.1) : Sub s (dataN s b) := by
  unfold dataN
  split
  · exact sub_text s hb
  · exact sub_take s _
theorem sub_loop : ∀ (n : Nat) (s : St) (lo : Int) (acc : RS), Byt s.1 → Sub s (ackLoop n s lo acc).2
  | 0, s, lo, acc, _ => Sub.refl s
  | n + 1, s, lo, acc, hb => ((sub_var s hb).trans (sub_var _ (varN_byt s hb))).trans (sub_loop n _ _ _ (varN_byt _ (varN_byt s hb)))
theorem sub_ack (s : St) (hb : Byt s.1) : Sub s (ackR s).2.2 := by
  have h4 := (((sub_var s hb).trans (sub_var _ (varN_byt s hb))).trans (sub_var _ (varN_byt _ (varN_byt s hb)))).trans (sub_var _ (varN_byt _ (varN_byt _ (varN_byt s hb))))
  unfold ackR
  split
  · exact h4
  · exact h4.trans (sub_loop _ _ _ _ (varN_byt _ (varN_byt _ (varN_byt _ (varN_byt s hb)))))
theorem ite_P {α : Type} {P : α → Prop} {c : Prop} [Decidable c] {a b : α} (ha : P a) (hb : P b) : P (if c then a else b) := by split <;> assumption
def RdSub (s : St) (o : Option (FN × List Int × RS × St)) : Prop := ∀ x, o = some x → Sub s x.2.2.2
theorem sub_rdK (k : Int) (s : St) (hb : Byt s.1) : ∀ x, rdK k s = some x → Sub s x.2.2.2 := by
  have v1 := sub_var s hb
  have b1 := varN_byt s hb
  have v2 := v1.trans (sub_var _ b1)
  have b2 := varN_byt _ b1
  have v3 := v2.trans (sub_var _ b2)
  show RdSub s (rdK k s)
  unfold rdK
  repeat' (refine ite_P (P := RdSub s) ?_ ?_)
  all_goals
    intro x hx
    first
      | (cases hx; done)
      | (injection hx with hx; subst hx
         first
           | exact Sub.refl s
           | exact sub_ack s hb
           | exact v1
           | exact v2
           | exact v3
           | exact v1.trans (sub_text _ b1)
           | exact v1.trans (sub_data _ _ b1)
           | exact v2.trans (sub_data _ _ b2)
           | exact (v2.trans (sub_take _ _)).trans (sub_take _ _)
           | exact sub_take _ _)
/-- A frame that is read has a byte at least; what is left is the end of what was there. -/
theorem readO_eats (s : St) (hb : Byt s.1) (m : FN) (ds : List Int) (rs : RS) (s' : St) (h : readO s = some (m, ds, rs, s')) : s'.2 = false ∧ s.2 = false ∧ rightB m ds rs = true ∧ ∃ n : Nat, 1 ≤ n ∧ n ≤ s.1.length ∧ s'.1 = s.1.drop n := by
  unfold readO at h
  split at h
  · cases h
  · split at h
    · cases h
    · next x hx =>
      split at h
      · next hc =>
        injection h with h
        subst h
        obtain ⟨hc1, hc2⟩ := hc
        simp only at hc1 hc2
        have hs := sub_rdK _ _ (varN_byt s hb) _ hx
        simp only at hs
        obtain ⟨k1, n, k2, k3⟩ := hs hc1
        obtain ⟨n0, q1, q2, q3, q4⟩ := varN_ok s hb k1
        refine ⟨hc1, q4, hc2, n0 + n, by omega, ?_, ?_⟩
        · rw [q3, List.length_drop] at k2; omega
        · rw [k3, q3, List.drop_drop]
      · cases h
/-- Frames, till nothing is left; none: there is nothing at all, or one that is none. -/
def allO : Nat → St → Option (List FD)
  | 0, _ => none
  | n + 1, s => match readO s with
    | none => none
    | some x => if x.2.2.2.1.length = 0 then some [(x.1, x.2.1, x.2.2.1)] else (allO n x.2.2.2).map ((x.1, x.2.1, x.2.2.1) :: ·)
def FR.fd (x : FR) : FD := (x.m, x.ds, x.rs)
/-- The cells of frames. -/
def frsC (L : List FR) : List Value := L.flatMap fun x => frL x.m x.d x.r
theorem frsC_len : ∀ L : List FR, (frsC L).length = L.length * 19
  | [] => rfl
  | x :: t => by
    have := frsC_len t
    unfold frsC at *
    rw [List.flatMap_cons, List.length_append, this, List.length_cons, frL_len]; omega
theorem frsC_app (a b : List FR) : frsC (a ++ b) = frsC a ++ frsC b := by unfold frsC; exact List.flatMap_append
theorem frsC_get : ∀ (L : List FR) (i : Nat) (x : FR), L[i]? = some x → ∀ (j : Nat) (v : Value), (frL x.m x.d x.r)[j]? = some v → (frsC L)[i * 19 + j]? = some v
  | [], i, x, h, _, _, _ => by simp at h
  | y :: t, 0, x, h, j, v, hv => by
    simp at h
    subst h
    have hj := (List.getElem?_eq_some_iff.1 hv).1
    unfold frsC
    rw [List.flatMap_cons, List.getElem?_append_left (by omega), Nat.zero_mul, Nat.zero_add]
    exact hv
  | y :: t, i + 1, x, h, j, v, hv => by
    have := frsC_get t i x (by simpa using h) j v hv
    unfold frsC at *
    rw [List.flatMap_cons, List.getElem?_append_right (by rw [frL_len]; omega), frL_len, show (i + 1) * 19 + j - 19 = i * 19 + j by omega]
    exact this
theorem frL_one (m : FN) (d r : Sl) : ∀ u ∈ frL m d r, u.oneCell' = true := fun u hu => by
  simp only [frL, List.mem_cons, List.not_mem_nil, or_false] at hu
  rcases hu with rfl | rfl | rfl | rfl | rfl | rfl | rfl | rfl | rfl | rfl | rfl | rfl | rfl | rfl | rfl | rfl | rfl | rfl | rfl <;> rfl
/-- The value v is a slice that the call made itself (no block below base), of the frames L. -/
def OwnF (w : World) (base : Nat) (v : Value) (L : List FR) : Prop := w.ownsRow base 31 19 v L.length (frsC L)
theorem OwnF.block_lt {w : World} {base : Nat} {v : Value} {L : List FR} (h : OwnF w base v L) : ∀ k, v.ownBlock = some k → base ≤ k ∧ k < w.heap.size := World.ownsRow.lt h
theorem OwnF.keep {w w' : World} {base : Nat} {v : Value} {L : List FR} (h : OwnF w base v L) (hk : ∀ k, v.ownBlock = some k → w'.heap[k]? = w.heap[k]?) : OwnF w' base v L := by
  refine ⟨h.1, ?_⟩
  rcases h.2 with h0 | ⟨g, cap, cur, rfl, h2, h3, h4⟩
  · exact .inl h0
  · exact .inr ⟨g, cap, cur, rfl, h2, (hk g rfl).trans h3, h4⟩
theorem OwnF.kept {S : Nat → Prop} {w w' : World} {base : Nat} {v : Value} {L : List FR} (h : OwnF w base v L) (k : Kept S w w') (hs : ∀ j, v.ownBlock = some j → ¬ S j) : OwnF w' base v L := h.keep fun j hj => k.block j (h.block_lt j hj).2 (hs j hj)
theorem OwnF.shape {w : World} {base : Nat} {v : Value} {L : List FR} (h : OwnF w base v L) (n : Nat) (hn : L.length = n) : ∃ A c, v = .slice A n c ∧ n ≤ c ∧ c ≤ maxLen := by
  subst hn
  rcases h.2 with ⟨rfl, h0⟩ | ⟨g, cap, cur, rfl, _, _, h1, h2, _⟩
  · exact ⟨none, 0, by rw [h0], by omega, by unfold maxLen; exact Nat.zero_le _⟩
  · exact ⟨_, cap, rfl, h1, h2⟩
/-- What the call made reads so, with frames that read so. -/
theorem OwnF.frsP {w : World} {base n c : Nat} {A : Option Addr} {P : Nat → Prop} {L : List FR} (h : OwnF w base (.slice A n c) L) (hn : L.length = n) (hp : ∀ b, base ≤ b → P b) (hf : ∀ x ∈ L, Fits w P x.m x.d x.r x.ds x.rs) : FrsP w P A n L := by
  refine ⟨hn, fun hpos => ?_, hf⟩
  rcases h.2 with ⟨h0, h0'⟩ | ⟨g, cap, cur, e, hb, hg, k1, k2, k3, k4⟩
  · omega
  · injection e with e1 e2 e3
    subst e1
    have hlt : g < w.heap.size := by
      rcases Nat.lt_or_ge g w.heap.size with hlt | hge
      · exact hlt
      · rw [Array.getElem?_eq_none hge] at hg; cases hg
    refine ⟨g, 0, rfl, hlt, hp g hb, fun i x hx j v hv => ?_⟩
    have hq := frsC_get L i x hx j v hv
    have hql := (List.getElem?_eq_some_iff.1 hq).1
    rw [frsC_len] at hql
    rw [← k4, List.getElem?_take_of_lt (by omega)] at hq
    rw [cell_of_row w g _ cur _ (0, 0) hg, show 0 + i * 19 + j = i * 19 + j by omega]
    simpa using hq
theorem fr_info3 : (Try.prog.info? 31).map (fun i => (i.zero, i.size, i.bytes)) = some (some (.agg #[.int .i64 0, .int .u64 0, .int .u64 0, .slice none 0 0, .bool false, .int .u64 0, .int .u64 0, .int .u64 0, .int .u64 0, .int .u64 0, .slice none 0 0,
  .int .u8 0, .int .u8 0, .int .u8 0, .int .u8 0, .int .u8 0, .int .u8 0, .int .u8 0, .int .u8 0]), 19, 128) := by kernel_rfl
theorem wpList_append_f {w : World} {ops : Array Oper} {rest : List Oper} {o : Oper} {a : Act} {Q : Exit → Act → World → Prop} (hgd : o.guard = none) (s x : Operand)
    (ho : o.op = .call { callee := .builtin .append, args := #[s, x], argTypes := #[22, 22] }) (base : Nat) (v : Value) (L : List FR) (hs : a.eval s = v) (hown : OwnF w base v L) (g c : Nat) (y : FR)
    (hx : a.eval x = .slice (some ⟨g, 0, none⟩) 1 c) (hcell : At w g 31 (frL y.m y.d y.r)) (hl : L.length ≤ 100000000000) (hbase : base ≤ w.heap.size)
    (h : ∀ v' w', OwnF w' base v' (L ++ [y]) → w.grownBy w' v.ownBlock → (v'.ownBlock = v.ownBlock ∨ v'.ownBlock = some w.heap.size) → wpList Try.prog ops Q rest (a.put o.dst v') w') : wpList Try.prog ops Q (o :: rest) a w := by
  have hI := fr_info3
  cases hq : Try.prog.info? 31 with
  | none => rw [hq] at hI; cases hI
  | some i =>
    rw [hq] at hI
    simp only [Option.map_some, Option.some.injEq, Prod.mk.injEq] at hI
    refine wpList_append_1 hgd s x _ ho base 31 i _ 19 128 Try.underlying22 hq hI.1 hI.2.1 hI.2.2 rfl (by omega) v L.length (frsC L) hs hown g c (frL y.m y.d y.r) _ hx rfl hcell (frL_one _ _ _) (by unfold maxLen; omega) (by omega) hbase (fun v' w' k1 k2 k3 => h v' w' ?_ k2 k3)
    unfold OwnF
    rw [frsC_app, List.length_append, show frsC [y] = frL y.m y.d y.r by simp [frsC]]
    exact k1
end
section
set_option linter.unusedVariables false
set_option linter.unusedSimpArgs false
open Go.RowKit
theorem fold_set : ∀ (l : List Value) (k : Nat) (C : Array Value), (l.zipIdx k).foldl (fun cs (x : Value × Nat) => cs.setIfInBounds (0 + x.2) x.1) C = (setFrom C.toList k l).toArray
  | [], k, C => by simp [setFrom]
  | v :: r, k, C => by
    rw [List.zipIdx_cons, List.foldl_cons, fold_set r (k + 1)]
    simp [setFrom]
theorem run_bs1 (w : World) (l : List Value) (hl : l.length = 19) :
    (Instr.buildSlice 22 1 #[(0, .agg l.toArray)]).run Try.prog w = .ok (.slice (some ⟨w.heap.size, 0, none⟩) 1 1) (w.alloc (.cells l.toArray 31)) := by
  have hI := fr_info3
  cases hq : Try.prog.info? 31 with
  | none => rw [hq] at hI; cases hI
  | some i =>
    rw [hq] at hI
    simp only [Option.map_some, Option.some.injEq, Prod.mk.injEq] at hI
    obtain ⟨hz, hs, _⟩ := hI
    have hf : ∀ C : Array Value, C.size = 19 → Instr.fill (fun i => some (i * 19, 19)) C [(0, .agg l.toArray)] = some l.toArray := by
      intro C hC
      unfold Instr.fill
      simp only [Value.cells, List.size_toArray, hl, hC]
      have := fold_set l 0 C
      rw [setFrom_all _ _ (by simp [hC, hl])] at this
      simp [Instr.fill]
      rw [← this]
      simp [Array.foldl_toList]
    have hu := Try.underlying22
    simp [Instr.buildSlice, run_underlying hu, sizeOf, typeInfo, hq, hs, zeroValue, hz, newRow]
    rw [hf _ (by simp)]
    simp
section
variable {ops : Array Oper} {rest : List Oper} {a : Act} {w : World} {Q : Exit → Act → World → Prop} {dst : Option Tmp} {x : Operand} {t : TypeId} {pos : String} {after : Array Edge}
theorem wpList_bs1 (l : List Value) (g : Nat) (hg : g = w.heap.size) (hx : a.eval x = .agg l.toArray) (hl : l.length = 19) (h : wpList Try.prog ops Q rest (a.put dst (.slice (some ⟨g, 0, none⟩) 1 1)) (w.alloc (.cells l.toArray 31))) :
    wpList Try.prog ops Q (⟨dst, .buildSlice 22 1 #[(0, x)], t, pos, after, none⟩ :: rest) a w := by
  subst hg
  refine wpList_plain rfl fun K hK => ?_
  unfold Oper.wp
  simp [execOp, hx, run_bs1 w l hl, Result.andThen]
  exact hK _ _ h
end
end
section
set_option linter.unusedVariables false
set_option linter.unusedSimpArgs false
open Go.RowKit
/-- A whole frame's store, in a region that draws its order. -/
theorem step_st_at {ops : Array Oper} {a : Act} {w : World} {K : Act → World → Prop} {Q : Exit → Act → World → Prop} {E : Prop} {dst : Option Tmp} {x y : Operand} {t : TypeId} {pos : String} {after : Array Edge} {g : Option (Nat × Bool)}
    (hg : Region.wanted ⟨dst, .store 31 x y, t, pos, after, g⟩ (yielded ops a.tmps) = true) (p : Nat) (l l' : List Value) (hx : a.eval x = .pointer (some ⟨p, 0, none⟩)) (hy : a.eval y = .agg l'.toArray) (hA : At w p 31 l) (hl : l.length = 19) (hl' : l'.length = 19) (h1 : l'.all (·.oneCell') = true)
    (h : ∀ w', At w' p 31 l' → Kept (· = p) w w' → K (a.put dst undef) w') :
    if Region.wanted ⟨dst, .store 31 x y, t, pos, after, g⟩ (yielded ops a.tmps) = true then Oper.wp Try.prog ⟨dst, .store 31 x y, t, pos, after, g⟩ a w K Q else E := by
  rw [if_pos hg]
  refine wp_store_mid _ x y rfl p 0 l'.toArray hx hy (by simpa using hA.there _ (by omega)) (by simp [hl', fr_info]) (by simpa using h1) ?_
  have := At.setFrom l' l 0 w hA
  rw [setFrom_all l l' (hl.trans hl'.symm)] at this
  exact h _ (by simpa using this) (by simpa using Kept.setCells (S := (· = p)) rfl l' 0 w (Kept.refl _ _))
def DecPost (bs : List Int) (w : World) (e : Ending) (w' : World) : Prop :=
  (match readO (bs, false) with
  | none => e = .returned (.tuple #[frV (FN.zero 0) .nil .nil, .int .i64 0, .int .i64 12])
  | some x => ∃ d r, e = .returned (.tuple #[frV x.1 d r, .int .i64 ((bs.length : Int) - x.2.2.2.1.length), .int .i64 0]) ∧ Fits w' (fun b => w.heap.size ≤ b) x.1 d r x.2.1 x.2.2.1) ∧ Below w.heap.size w w'
theorem DecPost.no {bs : List Int} {w w' : World} (h : readO (bs, false) = none) (hb : Below w.heap.size w w') : DecPost bs w (.returned (.tuple #[frV (FN.zero 0) .nil .nil, .int .i64 0, .int .i64 12])) w' := by
  unfold DecPost; rw [h]; exact ⟨rfl, hb⟩
theorem DecPost.yes {bs : List Int} {w w' : World} {m : FN} {ds : List Int} {rs : RS} {s' : St} {d r : Sl} (h : readO (bs, false) = some (m, ds, rs, s')) (hf : Fits w' (fun b => w.heap.size ≤ b) m d r ds rs) (hb : Below w.heap.size w w') : DecPost bs w (.returned (.tuple #[frV m d r, .int .i64 ((bs.length : Int) - s'.1.length), .int .i64 0])) w' := by
  unfold DecPost; rw [h]; exact ⟨⟨d, r, rfl, hf⟩, hb⟩
set_option maxRecDepth 100000 in
set_option maxHeartbeats 1000000 in
theorem decode_any (A : Option Addr) (n c : Nat) (bs : List Int) (w : World) (hr : Rd w w.heap.size A n bs) (hn : n ≤ 100000000000000) (hA : A = none → c = 0) :
    Calls Try.prog 23 #[.slice A n c] w (DecPost bs w) := by
  have HL := Lib.hid hr.1
  have hby := hr.2.1
  have hB0 : Below w.heap.size w (w.alloc (.cells (frL (FN.zero 0) .nil .nil).toArray 31)) := (Below.refl _ _).alloc (Nat.le_refl _) _
  have hA0 : At (w.alloc (.cells (frL (FN.zero 0) .nil .nil).toArray 31)) w.heap.size 31 (frL (FN.zero 0) .nil .nil) := At.new w _ _
  have hR0 : Rd (w.alloc (.cells (frL (FN.zero 0) .nil .nil).toArray 31)) (w.alloc (.cells (frL (FN.zero 0) .nil .nil).toArray 31)).heap.size A n bs := (hr.below hB0).more hB0.size
  have hs0 : (w.alloc (.cells (frL (FN.zero 0) .nil .nil).toArray 31)).heap.size = w.heap.size + 1 := by simp
  go_enter Try.func23, Try.ntmps23
  go_wp2_with fail
  refine (of_any A n c bs _ hR0 (by omega) hA).mono ?_
  rintro e w1 ⟨p, rfl, hp, hr1, hb1⟩
  have hA1 := hA0.below hb1 (by omega)
  have hB1 := hB0.trans (hb1.mono hB0.size)
  have hs1 := hb1.size
  rw [hs0] at hp hr1 hs1
  have hpl : p < w1.heap.size := by obtain ⟨_, _, _, h, _⟩ := hr1; exact h.lt
  clear hb1 hA0 hB0 hR0 hs0
  go_wp2_with fail
  refine (read_any p _ _ (bs, false) w1 hr1 (fun b hb => by omega) (by rw [HL.out]; exact hn)).mono ?_
  intro e w2 hpost
  unfold ReadPost at hpost
  cases hro : readO (bs, false) with
  | none =>
    rw [hro] at hpost
    obtain ⟨rfl, hk2⟩ := hpost
    have HNO := Lib.hid hro
    have hA2 := hA1.kept hk2 (by omega)
    have hB2 := hk2.below hB1 (by omega) (fun j hj => by omega)
    obtain ⟨LZ, hLZ⟩ : ∃ L, frL (FN.zero 0) .nil .nil = L := ⟨_, rfl⟩
    have hLl : LZ.length = 19 := by rw [← hLZ]; rfl
    have hone : LZ.all (·.oneCell') = true := by rw [← hLZ]; rfl
    have hfv : frV (FN.zero 0) .nil .nil = .agg LZ.toArray := by rw [← hLZ]; rfl
    have HLl := Lib.hid hLl
    have HO := Lib.hid hone
    have HFV := Lib.hid hfv
    have HLZ := Lib.hid hLZ
    rw [hfv]
    clear hro hk2 hLZ hLl hone hfv
    go_wp2_with (first | ((with_reducible refine at_st (x := .tmp 6) ?_); refine st_top _ _ LZ (by rfl) _ (by rfl) (by simp) (by rfl) (by rfl) HLl.out HO.out ?_) | ((with_reducible refine at_st (x := .tmp 2) ?_); refine st_at _ _ (frL (FN.zero 0) .nil .nil) (by rfl) (by rfl) (hA2.alloc _) (by rfl) (by rfl) (by rfl) ?_; intro w9 hA9 hk9) | fail)
    refine bodyPost_ret (results_cell_tmp2 2 3 4 31 (by rfl) _ 31 _ _ _ _ (by rfl) (by rfl) (by rfl) hA9 Try.underlying31 rfl fr_info) rfl ?_
    exact DecPost.no HNO.out (hk9.below (hB2.alloc (by have := hB2.size; omega) _) (by have := hB2.size; simp; omega) (fun j hj => by omega))
  | some x =>
    obtain ⟨m, ds, rs, s'⟩ := x
    rw [hro] at hpost
    obtain ⟨d, r, rfl, hf2, hr2, hk2⟩ := hpost
    simp only at hf2 hr2
    have HYES := Lib.hid hro
    obtain ⟨_, _, _, k, k1, k2, k3⟩ := readO_eats (bs, false) hby m ds rs s' hro
    simp only at k2 k3
    have hlen' : s'.1.length ≤ n := by rw [k3, List.length_drop, HL.out]; omega
    have hA2 := hA1.kept hk2 (by omega)
    have hB2 := hk2.below hB1 (by omega) (fun j hj => by omega)
    obtain ⟨LF, hLF⟩ : ∃ L, frL m d r = L := ⟨_, rfl⟩
    have hLl : LF.length = 19 := by rw [← hLF]; rfl
    have hone : LF.all (·.oneCell') = true := by rw [← hLF]; rfl
    have hfv : frV m d r = .agg LF.toArray := by rw [← hLF]; rfl
    have HLl := Lib.hid hLl
    have HO := Lib.hid hone
    have HFV := Lib.hid hfv
    rw [hfv]
    have hs2 := hk2.size
    obtain ⟨N', hN'⟩ : ∃ x, s'.1.length = x := ⟨_, rfl⟩
    rw [hN'] at hlen'
    have HN' := Lib.hid hN'
    clear hro hk2 hLF hLl hone hfv k1 k2 k3 hN'
    have hwA := hA2.alloc (.cells LF.toArray 31)
    have hw6 := At.new w2 31 LF
    have hrA := hr2.kept (((Kept.refl (fun _ => False) w2).alloc (.cells LF.toArray 31))) (fun h => h) (fun _ _ h => h)
    have hBA := hB2.alloc (by omega) (.cells LF.toArray 31)
    have hFA := hf2.below ((Below.refl _ _).alloc (Nat.le_refl _) (.cells LF.toArray 31))
    go_wp2_with (first | ((with_reducible refine at_st (x := .tmp 6) ?_); refine st_top _ _ LF (by rfl) _ (by rfl) (by simp) (by rfl) (by rfl) HLl.out HO.out ?_) | fail)
    obtain ⟨wA, hwA'⟩ : ∃ x, w2.alloc (.cells LF.toArray 31) = x := ⟨_, rfl⟩
    rw [hwA'] at hwA hw6 hrA hBA hFA ⊢
    have hsA : w2.heap.size < wA.heap.size := hw6.lt
    clear hwA'
    have hwA := hwA.drew
    have hw6 := hw6.drew
    have hrA : Rdr wA.drew p 108 (fun b => w.heap.size + 1 ≤ b ∧ b < p) s' := hrA

    refine wp_region_held_drew (S := (fun w' => w'.rangeAt w2.heap.size 0 LF)) (by kernel_rfl) (hw6.rangeAt) (fun hHeld => ?_)
    refine take_dst (i := 0) (dst := some 18) rfl rfl (by kernel_rfl) (by kernel_rfl) (by kernel_rfl) (fun _ _ _ h => h) (v := ?_) ?_ (by assumption) ?_
    rotate_left
    · refine yl_fr ?ylx0 ?ylo0 ?ylb0 ?ylp0 ?ylL0 ?ylS0 ?yll0 ?ylw0
      case ylo0 => rfl
      case ylp0 => rfl
      case ylS0 => intro w hSw; (try dsimp only at hSw); go_split_ands; assumption
      case yll0 => first | rfl | exact HLl.out
      case ylw0 => rfl
    simp only [Act.put, List.setIfInBounds_toArray, List.set_cons_zero, List.set_cons_succ]
    refine tkp 1 (some 19) (v := ?_) rfl (Or.inl ⟨by rfl, ?_⟩) (by assumption) ?_
    rotate_left
    · intro w hSw; (try dsimp only at hSw); go_simp; first | done | (with_reducible rfl)
    simp only [Act.put, List.setIfInBounds_toArray, List.set_cons_zero, List.set_cons_succ]
    refine tkp 2 (some 20) (v := ?_) rfl (Or.inl ⟨by rfl, ?_⟩) (by assumption) ?_
    rotate_left
    · intro w hSw; (try dsimp only at hSw); go_simp; first | done | (with_reducible rfl)
    simp only [Act.put, List.setIfInBounds_toArray, List.set_cons_zero, List.set_cons_succ]
    refine tkp 3 (some 21) (v := ?_) rfl (Or.inl ⟨by rfl, ?_⟩) (by assumption) ?_
    rotate_left
    · intro w hSw; (try dsimp only at hSw); go_simp; first | done | (with_reducible rfl)
    simp only [Act.put, List.setIfInBounds_toArray, List.set_cons_zero, List.set_cons_succ]
    refine wpAnyH_ready (rs := [4]) (by kernel_rfl) (by simp) ?_
    refine AllReadyH.cons rfl (fun K hK => ?_) AllReadyH.nil
    go_simp
    go_wp2_with ((go_at_call 44; refine (left_any p _ _ s' _ hrA).mono ?_; rintro e w3 ⟨rfl, rfl⟩))
    refine hK.out _ _ (hHeld) (fun hHeld => ?_)
    clear hK K
    rw [HN'.out]
    have hwr : IntKind.i64.wrap ((n : Int) - (N' : Int)) = n - N' := IntWalk.i64_in _ (by omega)
    refine tkp 5 (some 23) (v := ?_) rfl (Or.inl ⟨by rfl, ?_⟩) (by assumption) ?_
    rotate_left
    · intro w hSw; (try dsimp only at hSw); go_simp; first | done | (with_reducible rfl)
    simp only [Act.put, List.setIfInBounds_toArray, List.set_cons_zero, List.set_cons_succ]
    refine wpAnyH_ready (rs := [6]) (by kernel_rfl) (by simp) ?_
    refine AllReadyH.cons rfl (fun K hK => ?_) AllReadyH.nil
    refine step_st_at (by rfl) w.heap.size (frL (FN.zero 0) .nil .nil) LF (by rfl) (by rfl) hwA (by rfl) HLl.out HO.out ?_
    intro w4 hA4 hk4
    have hw64 := hw6.kept hk4 (by omega)
    refine hK.out _ _ hw64.rangeAt (fun hHeld => ?_)
    clear hK K hwr
    refine tkp 7 (some 3) (v := ?_) rfl (Or.inl ⟨by rfl, ?_⟩) (by assumption) ?_
    rotate_left
    · intro w hSw; (try dsimp only at hSw); go_simp; first | done | (with_reducible rfl)
    simp only [Act.put, List.setIfInBounds_toArray, List.set_cons_zero, List.set_cons_succ]
    refine tkp 8 (some 4) (v := ?_) rfl (Or.inl ⟨by rfl, ?_⟩) (by assumption) ?_
    rotate_left
    · intro w hSw; (try dsimp only at hSw); go_simp; first | done | (with_reducible rfl)
    simp only [Act.put, List.setIfInBounds_toArray, List.set_cons_zero, List.set_cons_succ]
    refine wpAnyH_done (by kernel_rfl) ?_ _
    go_wp2_with fail
    refine bodyPost_ret (results_cell_tmp2 2 3 4 31 (by rfl) _ 31 _ _ _ _ (by rfl) (by rfl) (by rfl) hA4 Try.underlying31 rfl (by rw [HLl.out]; exact fr_info)) rfl ?_
    have hfin := DecPost.yes HYES.out ((hFA.kept (S := (· = w.heap.size)) hk4.from_drew (fun b hb e => by omega)).mono (fun b _ hb => by omega)) (hk4.below (below_drew hBA) (by show w.heap.size ≤ wA.heap.size; omega) (fun j hj => by omega))
    rw [HFV.out, HL.out, HN'.out] at hfin
    exact hfin
/-- What All's loop keeps. -/
structure AllL (w : World) (p : Nat) (s0 : St) (tot : Option (List FD)) (gk : Nat) (v : Value) (wr : World) (s : St) (L : List FR) : Prop where
  rd : Rdr wr p 108 (fun b => w.heap.size ≤ b ∧ b < p) s
  own : OwnF wr (p + 1) v L
  ft : ∀ x ∈ L, Fits wr (fun b => p < b ∧ v.ownBlock ≠ some b) x.m x.d x.r x.ds x.rs
  bl : Below w.heap.size w wr
  eq : tot = (allO gk s).map (L.map FR.fd ++ ·)
  lt : s.1.length < gk
  ps : p < wr.heap.size
  pw : w.heap.size ≤ p
  ln : L.length + s.1.length ≤ s0.1.length
def AllPost (bs : List Int) (w : World) (e : Ending) (w' : World) : Prop :=
  (match allO (bs.length + 1) (bs, false) with
  | none => e = .returned (.tuple #[.slice none 0 0, .int .i64 12])
  | some l => ∃ A n c L, e = .returned (.tuple #[.slice A n c, .int .i64 0]) ∧ FrsP w' (fun b => w.heap.size ≤ b) A n L ∧ n ≤ c ∧ c ≤ maxLen ∧ L.map FR.fd = l) ∧ Below w.heap.size w w'
theorem AllPost.no {bs : List Int} {w w' : World} (h : allO (bs.length + 1) (bs, false) = none) (hb : Below w.heap.size w w') : AllPost bs w (.returned (.tuple #[.slice none 0 0, .int .i64 12])) w' := by
  unfold AllPost; rw [h]; exact ⟨rfl, hb⟩
theorem AllPost.yes {bs : List Int} {w w' : World} {A : Option Addr} {n c : Nat} {L : List FR} (h : allO (bs.length + 1) (bs, false) = some (L.map FR.fd)) (hf : FrsP w' (fun b => w.heap.size ≤ b) A n L) (hn : n ≤ c) (hc : c ≤ maxLen) (hb : Below w.heap.size w w') : AllPost bs w (.returned (.tuple #[.slice A n c, .int .i64 0])) w' := by
  unfold AllPost; rw [h]; exact ⟨⟨A, n, c, L, rfl, hf, hn, hc, rfl⟩, hb⟩
end
section
set_option linter.unusedVariables false
set_option linter.unusedSimpArgs false
open Go.RowKit
set_option maxRecDepth 100000 in
set_option maxHeartbeats 2000000 in
theorem all_any (A : Option Addr) (n c : Nat) (bs : List Int) (w : World) (hr : Rd w w.heap.size A n bs) (hn : n ≤ 10000000000) (hA : A = none → c = 0) :
    Calls Try.prog 20 #[.slice A n c] w (AllPost bs w) := by
  have HL := Lib.hid hr.1
  have hby := hr.2.1
  go_enter Try.func20, Try.ntmps20
  go_wp2_with fail
  refine (of_any A n c bs w hr (by omega) hA).mono ?_
  rintro e w1 ⟨p, rfl, hp, hr1, hb1⟩
  have hpl : p < w1.heap.size := by obtain ⟨_, _, _, h, _⟩ := hr1; exact h.lt
  have HI : Hid (AllL w p (bs, false) (allO (bs.length + 1) (bs, false)) (bs.length + 1) (.slice none 0 0) w1 (bs, false) []) := Lib.hid
    ⟨hr1, World.ownsRow_nil _ _ _ _, fun _ h => by simp at h, hb1, by cases allO (bs.length + 1) (bs, false) <;> simp, by simp, hpl, hp, by simp⟩
  clear hr1 hb1
  obtain ⟨tot, htot⟩ : ∃ x, allO (bs.length + 1) (bs, false) = x := ⟨_, rfl⟩
  have HTOT := Lib.hid htot
  rw [htot] at HI
  obtain ⟨G, hG⟩ : ∃ x, bs.length + 1 = x := ⟨_, rfl⟩
  have hGn : G ≤ n + 1 := by rw [← hG, HL.out]; exact Nat.le_refl _
  rw [hG] at HI
  clear htot hG
  go_wp2_with fail
  go_loopg [5] G (fun gk l wr => ∃ (A : Option Addr) (k c : Nat) (s : St) (L : List FR), l = .slice A k c ∧ gk ≤ G ∧ Hid (AllL w p (bs, false) tot gk (.slice A k c) wr s L ∧ Byt s.1))
  case atStart => exact ⟨none, 0, 0, _, _, rfl, Nat.le_refl _, Lib.hid ⟨HI.out, hby⟩⟩
  case round =>
    clear HI
    obtain ⟨Ak, k, ck, s, L, rfl, hgk, hat⟩ := hrel
    have hps := hat.out.1.ps
    have hlt := hat.out.1.lt
    have hpw := hat.out.1.pw
    have hbs := hat.out.1.bl.size
    go_wp2_with fail
    refine (read_any p _ _ s wr hat.out.1.rd (fun b hb => by omega) (by omega)).mono ?_
    intro e w2 hpost
    unfold ReadPost at hpost
    cases hro : readO s with
    | none =>
      rw [hro] at hpost
      obtain ⟨rfl, hk2⟩ := hpost
      have hz : tot = none := by
        rw [hat.out.1.eq]
        obtain ⟨g', rfl⟩ : ∃ g', gk = g' + 1 := ⟨gk - 1, by omega⟩
        simp [allO, hro]
      have HZ := Lib.hid hz
      have hB2 := hk2.below hat.out.1.bl (by omega) (fun j hj => by omega)
      obtain ⟨LZ, hLZ⟩ : ∃ L, frL (FN.zero 0) .nil .nil = L := ⟨_, rfl⟩
      have hLl : LZ.length = 19 := by rw [← hLZ]; rfl
      have hone : LZ.all (·.oneCell') = true := by rw [← hLZ]; rfl
      have hfv : frV (FN.zero 0) .nil .nil = .agg LZ.toArray := by rw [← hLZ]; rfl
      have HLl := Lib.hid hLl
      have HO := Lib.hid hone
      rw [hfv]
      clear hro hk2 hLZ hLl hone hfv hz
      go_wp2_with (first | ((with_reducible refine at_st (x := .tmp 6) ?_); refine st_top _ _ LZ (by rfl) _ (by rfl) (by simp) (by rfl) (by rfl) HLl.out HO.out ?_) | fail)
      go_ret2
      exact AllPost.no (HTOT.out.trans HZ.out) (hB2.alloc (by have := hB2.size; omega) _)
    | some x =>
      obtain ⟨m, ds, rs, s'⟩ := x
      rw [hro] at hpost
      obtain ⟨d, r, rfl, hf2, hr2, hk2⟩ := hpost
      simp only at hf2 hr2
      obtain ⟨y, rfl, rfl, rfl, rfl, rfl⟩ : ∃ y : FR, y.m = m ∧ y.d = d ∧ y.r = r ∧ y.ds = ds ∧ y.rs = rs := ⟨⟨m, d, r, ds, rs⟩, rfl, rfl, rfl, rfl, rfl⟩
      obtain ⟨_, _, _, q, q1, q2, q3⟩ := readO_eats s hat.out.2 y.m y.ds y.rs s' hro
      have hlen' : s'.1.length < s.1.length := by rw [q3, List.length_drop]; omega
      have hby' : Byt s'.1 := by rw [q3]; exact hat.out.2.drop q
      have heq : tot = if s'.1.length = 0 then some ((L ++ [y]).map FR.fd) else (allO (gk - 1) s').map ((L ++ [y]).map FR.fd ++ ·) := by
        rw [hat.out.1.eq]
        obtain ⟨g', rfl⟩ : ∃ g', gk = g' + 1 := ⟨gk - 1, by omega⟩
        simp only [allO, hro, Nat.add_sub_cancel]
        split
        · simp [FR.fd]
        · cases allO g' s' with
          | none => rfl
          | some t => simp [FR.fd]
      have hB2 := hk2.below hat.out.1.bl (by omega) (fun j hj => by omega)
      have hvb := hat.out.1.own.block_lt
      have O2 := hat.out.1.own.kept hk2 (fun i hi e => by have := (hvb i hi).1; omega)
      have F2 : ∀ x ∈ L, Fits w2 (fun b => p < b ∧ (Value.slice Ak k ck).ownBlock ≠ some b) x.m x.d x.r x.ds x.rs := fun x hx => (hat.out.1.ft x hx).kept hk2 (fun b hb e => by omega)
      have F2y : Fits w2 (fun b => p < b ∧ (Value.slice Ak k ck).ownBlock ≠ some b) y.m y.d y.r y.ds y.rs := hf2.mono (fun b _ hb => ⟨by omega, fun e => by have := (hvb b e).2; omega⟩)
      have hln := hat.out.1.ln
      have hs2 := hk2.size
      obtain ⟨LF, hLF⟩ : ∃ L, frL y.m y.d y.r = L := ⟨_, rfl⟩
      have hLl : LF.length = 19 := by rw [← hLF]; rfl
      have hone : LF.all (·.oneCell') = true := by rw [← hLF]; rfl
      have hfv : frV y.m y.d y.r = .agg LF.toArray := by rw [← hLF]; rfl
      have hbB : Below w2.heap.size w2 ((w2.alloc (.cells LF.toArray 31)).alloc (.cells LF.toArray 31)) := ((Below.refl _ _).alloc (Nat.le_refl _) _).alloc (by simp) _
      have O3 := O2.kept (Kept.of_below hbB (fun _ => False)) (fun _ _ h => h)
      have F3 := fun x hx => (F2 x hx).below hbB
      have F3y := F2y.below hbB
      have R3 := hr2.kept (Kept.of_below hbB (fun _ => False)) (fun h => h) (fun _ _ h => h)
      have B3 := hB2.trans (hbB.mono (by omega))
      have C3 : At ((w2.alloc (.cells LF.toArray 31)).alloc (.cells LF.toArray 31)) (w2.heap.size + 1) 31 (frL y.m y.d y.r) := by rw [hLF]; exact At.new_ _ _ _ (by simp)
      have A6 := At.new w2 31 LF
      have hs3 : ((w2.alloc (.cells LF.toArray 31)).alloc (.cells LF.toArray 31)).heap.size = w2.heap.size + 1 + 1 := by simp
      have HLl := Lib.hid hLl
      have HO := Lib.hid hone
      have HEQ := Lib.hid heq
      have HO3 := Lib.hid O3
      have HC3 := Lib.hid C3
      have HS3 := Lib.hid hs3
      rw [hfv]
      have hLn : L.length ≤ 100000000000 := by have := HL.out; simp only at hln; omega
      have hbs3 : p + 1 ≤ ((w2.alloc (.cells LF.toArray 31)).alloc (.cells LF.toArray 31)).heap.size := by omega
      have HBS := Lib.hid hbs3
      have HBY := Lib.hid hby'
      clear hro hk2 hLF hLl hone hfv hat q1 q2 q3 heq O2 F2 F2y O3 C3 hs3 hbs3 hby' hbB hf2 hr2
      go_wp2_with (first | ((with_reducible refine at_st (x := .tmp 6) ?_); refine st_top _ _ LF (by rfl) _ (by rfl) (by simp) (by rfl) (by rfl) HLl.out HO.out ?_) | ((with_reducible refine at_ld (x := .tmp 6) ?_); refine ld_fr_g _ _ (by rfl) (by rfl) A6 HLl.out ?_) | (refine wpList_bs1 LF (w2.heap.size + 1) (by simp) (by rfl) HLl.out ?_) | (at_builtin; refine wpList_append_f rfl (.tmp 17) (.tmp 19) rfl (p + 1) _ L rfl HO3.out (w2.heap.size + 1) 1 y (by rfl) HC3.out hLn HBS.out ?_; intro v7 w7 hown7 hgr7 hv7; obtain ⟨A7, c7, rfl, hc7, hm7⟩ := hown7.shape (L.length + 1) (by simp)))
      have K7 := Kept.of_grown (S := fun k' => (Value.slice Ak k ck).ownBlock = some k') hgr7 (fun k hk => .inl hk)
      have hvb3 : ∀ k', (Value.slice Ak k ck).ownBlock = some k' → p + 1 ≤ k' := fun k' hk' => (HO3.out.block_lt k' hk').1
      have R7 := R3.kept K7 (fun hk => by have := hvb3 _ hk; omega) (fun b hb hk => by have := hvb3 _ hk; omega)
      have B7 : Below w.heap.size w w7 := K7.below B3 (by have := B3.size; omega) (fun j hj => by have := hvb3 j hj; omega)
      have F7 : ∀ x ∈ L ++ [y], Fits w7 (fun b => p < b ∧ (Value.slice A7 (L.length + 1) c7).ownBlock ≠ some b) x.m x.d x.r x.ds x.rs := fun x hx => by
        have hx3 : Fits ((w2.alloc (.cells LF.toArray 31)).alloc (.cells LF.toArray 31)) (fun b => p < b ∧ (Value.slice Ak k ck).ownBlock ≠ some b) x.m x.d x.r x.ds x.rs := by
          rcases List.mem_append.1 hx with hx | hx
          · exact F3 x hx
          · simp at hx; subst hx; exact F3y
        have hx4 : Fits ((w2.alloc (.cells LF.toArray 31)).alloc (.cells LF.toArray 31)) (fun b => (p < b ∧ (Value.slice Ak k ck).ownBlock ≠ some b) ∧ (Value.slice A7 (L.length + 1) c7).ownBlock ≠ some b) x.m x.d x.r x.ds x.rs := hx3.mono (fun b hb hP => ⟨hP, fun e => by
          rcases hv7 with h | h
          · rw [h] at e; exact hP.2 e
          · rw [h] at e; injection e with e; omega⟩)
        exact (hx4.kept K7 (fun b hb e => hb.1.2 e)).mono (fun b _ hb => ⟨hb.1.1, hb.2⟩)
      have hs7 : p < w7.heap.size := by have := K7.size; have := HBS.out; omega
      have HR7 := Lib.hid R7
      have HB7 := Lib.hid B7
      have HF7 := Lib.hid F7
      have HO7 := Lib.hid hown7
      clear R7 B7 F7 hown7 K7 hgr7 hv7 R3 B3 F3 F3y A6 hB2
      refine (left_any p _ _ s' _ HR7.out).mono ?_
      rintro e w8 ⟨rfl, rfl⟩
      rcases Nat.eq_zero_or_pos s'.1.length with hz | hz
      · have HEQ2 : Hid (tot = some ((L ++ [y]).map FR.fd)) := Lib.hid (by rw [HEQ.out, if_pos hz])
        rw [hz]
        clear hz
        go_wp2_with fail
        go_ret2
        refine AllPost.yes (HTOT.out.trans HEQ2.out) ((HO7.out.frsP (by simp) (fun b hb => ?_) (fun x hx => (HF7.out x hx).mono (P' := fun b => p < b) (fun b _ hb => hb.1))).mono (P' := fun b => w.heap.size ≤ b) (fun b _ hb => by omega)) hc7 hm7 HB7.out
        omega
      · have HEQ2 : Hid (tot = (allO (gk - 1) s').map ((L ++ [y]).map FR.fd ++ ·)) := Lib.hid (by rw [HEQ.out, if_neg (by omega)])
        obtain ⟨N', hN'⟩ : ∃ x, s'.1.length = x := ⟨_, rfl⟩
        have hne : ((N' : Int) == 0) = false := beq_eq_false_iff_ne.2 (by omega)
        have HN : Hid (AllL w p (bs, false) tot (gk - 1) (.slice A7 (L.length + 1) c7) w7 s' (L ++ [y])) := Lib.hid
          ⟨HR7.out, HO7.out, HF7.out, HB7.out, HEQ2.out, by omega, hs7, hpw, by rw [List.length_append]; simp only [List.length_cons, List.length_nil]; omega⟩
        rw [hN']
        clear hN' hz
        go_wp2_with fail
        go_roundg (gk - 1)
        case measure => omega
        case rel => exact ⟨_, _, _, s', _, rfl, by omega, Lib.hid ⟨HN.out, HBY.out⟩⟩
end
end Go.Proofs.Ytkahndjflhgccaa
