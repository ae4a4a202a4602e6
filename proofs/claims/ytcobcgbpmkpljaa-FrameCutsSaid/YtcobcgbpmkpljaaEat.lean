/-
  What a read leaves is the end of what was there; frames one behind the other.
-/
import Derived.Test.YtcobcgbpmkpljaaRead
namespace Go.Proofs.Ytcobcgbpmkpljaa
set_option linter.unusedVariables false
set_option linter.unusedSimpArgs false
open Go.RowKit
def Sub (s s' : St) : Prop := s'.2 = false → s.2 = false ∧ ∃ n : Nat, n ≤ s.1.length ∧ s'.1 = s.1.drop n
theorem Sub.refl (s : St) : Sub s s := fun h => ⟨h, 0, by omega, by simp⟩
theorem Sub.trans {s s' s'' : St} (h : Sub s s') (k : Sub s' s'') : Sub s s'' := fun hb => by
  obtain ⟨h1, n, hn, e⟩ := k hb
  obtain ⟨h2, m, hm, e2⟩ := h h1
  refine ⟨h2, m + n, ?_, ?_⟩
  · rw [e2, List.length_drop] at hn; omega
  · rw [e, e2, List.drop_drop]
theorem Sub.byt {s s' : St} (h : Sub s s') (hb : Byt s.1) (h0 : s'.2 = false) : Byt s'.1 := by
  obtain ⟨_, n, _, e⟩ := h h0
  rw [e]; exact hb.drop n
theorem sub_take (s : St) (n : Int) : Sub s (takeN s n) := fun h => by
  have := takeN_ok s n h
  exact ⟨this.2.2.2, n.toNat, by omega, this.2.2.1⟩
theorem takeN_byt (s : St) (n : Int) (h : Byt s.1) : Byt (takeN s n).1 := by
  unfold takeN
  split
  · exact h.drop _
  · exact Byt.nil
theorem sub_var (s : St) (hb : Byt s.1) : Sub s (varN s) := fun h => by
  obtain ⟨n, h1, h2, h3, h4⟩ := varN_ok s hb h
  exact ⟨h4, n, h2, h3⟩
theorem sub_text (s : St) (hb : Byt s.1) : Sub s (textN s) := (sub_var s hb).trans (sub_take _ _)
theorem textN_byt (s : St) (hb : Byt s.1) : Byt (textN s).1 := takeN_byt _ _ (varN_byt s hb)
theorem sub_data (s : St) (b : Bool) (hb : Byt s.1) : Sub s (dataN s b) := by
  unfold dataN
  split
  · exact sub_text s hb
  · exact sub_take s _
theorem sub_loop : ∀ (n : Nat) (s : St) (lo : Int) (acc : RS), Byt s.1 → Sub s (ackLoop n s lo acc).2
  | 0, s, lo, acc, _ => Sub.refl s
  | n + 1, s, lo, acc, hb => ((sub_var s hb).trans (sub_var _ (varN_byt s hb))).trans (sub_loop n _ _ _ (varN_byt _ (varN_byt s hb)))
theorem sub_ack (s : St) (hb : Byt s.1) : Sub s (ackR s).2.2 := by
  have h4 := (((sub_var s hb).trans (sub_var _ (varN_byt s hb))).trans (sub_var _ (varN_byt _ (varN_byt s hb)))).trans (sub_var _ (varN_byt _ (varN_byt _ (varN_byt s hb))))
  unfold ackR
  split
  · exact h4
  · exact h4.trans (sub_loop _ _ _ _ (varN_byt _ (varN_byt _ (varN_byt _ (varN_byt s hb)))))
theorem ite_P {α : Type} {P : α → Prop} {c : Prop} [Decidable c] {a b : α} (ha : P a) (hb : P b) : P (if c then a else b) := by split <;> assumption
def RdSub (s : St) (o : Option (FN × List Int × RS × St)) : Prop := ∀ x, o = some x → Sub s x.2.2.2
theorem sub_rdK (k : Int) (s : St) (hb : Byt s.1) : ∀ x, rdK k s = some x → Sub s x.2.2.2 := by
  have v1 := sub_var s hb
  have b1 := varN_byt s hb
  have v2 := v1.trans (sub_var _ b1)
  have b2 := varN_byt _ b1
  have v3 := v2.trans (sub_var _ b2)
  show RdSub s (rdK k s)
  unfold rdK
  repeat' (refine ite_P (P := RdSub s) ?_ ?_)
  all_goals
    intro x hx
    first
      | (cases hx; done)
      | (injection hx with hx; subst hx
         first
           | exact Sub.refl s
           | exact sub_ack s hb
           | exact v1
           | exact v2
           | exact v3
           | exact v1.trans (sub_text _ b1)
           | exact v1.trans (sub_data _ _ b1)
           | exact v2.trans (sub_data _ _ b2)
           | exact (v2.trans (sub_take _ _)).trans (sub_take _ _)
           | exact sub_take _ _)
/-- A frame that is read has a byte at least; what is left is the end of what was there. -/
theorem readO_eats (s : St) (hb : Byt s.1) (m : FN) (ds : List Int) (rs : RS) (s' : St) (h : readO s = some (m, ds, rs, s')) : s'.2 = false ∧ s.2 = false ∧ rightB m ds rs = true ∧ ∃ n : Nat, 1 ≤ n ∧ n ≤ s.1.length ∧ s'.1 = s.1.drop n := by
  unfold readO at h
  split at h
  · cases h
  · split at h
    · cases h
    · next x hx =>
      split at h
      · next hc =>
        injection h with h
        subst h
        obtain ⟨hc1, hc2⟩ := hc
        simp only at hc1 hc2
        have hs := sub_rdK _ _ (varN_byt s hb) _ hx
        simp only at hs
        obtain ⟨k1, n, k2, k3⟩ := hs hc1
        obtain ⟨n0, q1, q2, q3, q4⟩ := varN_ok s hb k1
        refine ⟨hc1, q4, hc2, n0 + n, by omega, ?_, ?_⟩
        · rw [q3, List.length_drop] at k2; omega
        · rw [k3, q3, List.drop_drop]
      · cases h
/-- Frames, till nothing is left; none: there is nothing at all, or one that is none. -/
def allO : Nat → St → Option (List FD)
  | 0, _ => none
  | n + 1, s => match readO s with
    | none => none
    | some x => if x.2.2.2.1.length = 0 then some [(x.1, x.2.1, x.2.2.1)] else (allO n x.2.2.2).map ((x.1, x.2.1, x.2.2.1) :: ·)
/-- The number of rounds makes no difference, if it is enough. -/
theorem allO_more : ∀ (n n' : Nat) (s : St), Byt s.1 → s.1.length < n → s.1.length < n' → allO n s = allO n' s
  | 0, _, s, _, h, _ => by omega
  | _, 0, s, _, _, h => by omega
  | n + 1, n' + 1, s, hb, h1, h2 => by
    unfold allO
    cases hr : readO s with
    | none => rfl
    | some x =>
      obtain ⟨m, ds, rs, s'⟩ := x
      obtain ⟨_, _, _, k, k1, k2, k3⟩ := readO_eats s hb m ds rs s' hr
      simp only
      have hlen : s'.1.length < s.1.length := by rw [k3, List.length_drop]; omega
      rw [allO_more n n' s' (by rw [k3]; exact hb.drop k) (by omega) (by omega)]
def FR.fd (x : FR) : FD := (x.m, x.ds, x.rs)
/-- The cells of frames. -/
def frsC (L : List FR) : List Value := L.flatMap fun x => frL x.m x.d x.r
theorem frsC_len : ∀ L : List FR, (frsC L).length = L.length * 19
  | [] => rfl
  | x :: t => by
    have := frsC_len t
    unfold frsC at *
    rw [List.flatMap_cons, List.length_append, this, List.length_cons, frL_len]; omega
theorem frsC_app (a b : List FR) : frsC (a ++ b) = frsC a ++ frsC b := by unfold frsC; exact List.flatMap_append
theorem frsC_get : ∀ (L : List FR) (i : Nat) (x : FR), L[i]? = some x → ∀ (j : Nat) (v : Value), (frL x.m x.d x.r)[j]? = some v → (frsC L)[i * 19 + j]? = some v
  | [], i, x, h, _, _, _ => by simp at h
  | y :: t, 0, x, h, j, v, hv => by
    simp at h
    subst h
    have hj := (List.getElem?_eq_some_iff.1 hv).1
    unfold frsC
    rw [List.flatMap_cons, List.getElem?_append_left (by omega), Nat.zero_mul, Nat.zero_add]
    exact hv
  | y :: t, i + 1, x, h, j, v, hv => by
    have := frsC_get t i x (by simpa using h) j v hv
    unfold frsC at *
    rw [List.flatMap_cons, List.getElem?_append_right (by rw [frL_len]; omega), frL_len, show (i + 1) * 19 + j - 19 = i * 19 + j by omega]
    exact this
theorem frL_one (m : FN) (d r : Sl) : ∀ u ∈ frL m d r, u.oneCell' = true := fun u hu => by
  simp only [frL, List.mem_cons, List.not_mem_nil, or_false] at hu
  rcases hu with rfl | rfl | rfl | rfl | rfl | rfl | rfl | rfl | rfl | rfl | rfl | rfl | rfl | rfl | rfl | rfl | rfl | rfl | rfl <;> rfl
/-- The value v is a slice that the call made itself (no block below base), of the frames L. -/
def OwnF (w : World) (base : Nat) (v : Value) (L : List FR) : Prop := w.ownsRow base 31 19 v L.length (frsC L)
theorem OwnF.block_lt {w : World} {base : Nat} {v : Value} {L : List FR} (h : OwnF w base v L) : ∀ k, v.ownBlock = some k → base ≤ k ∧ k < w.heap.size := World.ownsRow.lt h
theorem OwnF.keep {w w' : World} {base : Nat} {v : Value} {L : List FR} (h : OwnF w base v L) (hk : ∀ k, v.ownBlock = some k → w'.heap[k]? = w.heap[k]?) : OwnF w' base v L := by
  refine ⟨h.1, ?_⟩
  rcases h.2 with h0 | ⟨g, cap, cur, rfl, h2, h3, h4⟩
  · exact .inl h0
  · exact .inr ⟨g, cap, cur, rfl, h2, (hk g rfl).trans h3, h4⟩
theorem OwnF.kept {S : Nat → Prop} {w w' : World} {base : Nat} {v : Value} {L : List FR} (h : OwnF w base v L) (k : Kept S w w') (hs : ∀ j, v.ownBlock = some j → ¬ S j) : OwnF w' base v L := h.keep fun j hj => k.block j (h.block_lt j hj).2 (hs j hj)
theorem OwnF.shape {w : World} {base : Nat} {v : Value} {L : List FR} (h : OwnF w base v L) (n : Nat) (hn : L.length = n) : ∃ A c, v = .slice A n c ∧ n ≤ c ∧ c ≤ maxLen := by
  subst hn
  rcases h.2 with ⟨rfl, h0⟩ | ⟨g, cap, cur, rfl, _, _, h1, h2, _⟩
  · exact ⟨none, 0, by rw [h0], by omega, by unfold maxLen; exact Nat.zero_le _⟩
  · exact ⟨_, cap, rfl, h1, h2⟩
/-- What the call made reads so, with frames that read so. -/
theorem OwnF.frsP {w : World} {base n c : Nat} {A : Option Addr} {P : Nat → Prop} {L : List FR} (h : OwnF w base (.slice A n c) L) (hn : L.length = n) (hp : ∀ b, base ≤ b → P b) (hf : ∀ x ∈ L, Fits w P x.m x.d x.r x.ds x.rs) : FrsP w P A n L := by
  refine ⟨hn, fun hpos => ?_, hf⟩
  rcases h.2 with ⟨h0, h0'⟩ | ⟨g, cap, cur, e, hb, hg, k1, k2, k3, k4⟩
  · omega
  · injection e with e1 e2 e3
    subst e1
    have hlt : g < w.heap.size := by
      rcases Nat.lt_or_ge g w.heap.size with hlt | hge
      · exact hlt
      · rw [Array.getElem?_eq_none hge] at hg; cases hg
    refine ⟨g, 0, rfl, hlt, hp g hb, fun i x hx j v hv => ?_⟩
    have hq := frsC_get L i x hx j v hv
    have hql := (List.getElem?_eq_some_iff.1 hq).1
    rw [frsC_len] at hql
    rw [← k4, List.getElem?_take_of_lt (by omega)] at hq
    rw [cell_of_row w g _ cur _ (0, 0) hg, show 0 + i * 19 + j = i * 19 + j by omega]
    simpa using hq
theorem fr_info3 : (Try.prog.info? 31).map (fun i => (i.zero, i.size, i.bytes)) = some (some (.agg #[.int .i64 0, .int .u64 0, .int .u64 0, .slice none 0 0, .bool false, .int .u64 0, .int .u64 0, .int .u64 0, .int .u64 0, .int .u64 0, .slice none 0 0,
  .int .u8 0, .int .u8 0, .int .u8 0, .int .u8 0, .int .u8 0, .int .u8 0, .int .u8 0, .int .u8 0]), 19, 128) := by kernel_rfl
theorem wpList_append_f {w : World} {ops : Array Oper} {rest : List Oper} {o : Oper} {a : Act} {Q : Exit → Act → World → Prop} (hgd : o.guard = none) (s x : Operand)
    (ho : o.op = .call { callee := .builtin .append, args := #[s, x], argTypes := #[22, 22] }) (base : Nat) (v : Value) (L : List FR) (hs : a.eval s = v) (hown : OwnF w base v L) (g c : Nat) (y : FR)
    (hx : a.eval x = .slice (some ⟨g, 0, none⟩) 1 c) (hcell : At w g 31 (frL y.m y.d y.r)) (hl : L.length ≤ 100000000000) (hbase : base ≤ w.heap.size)
    (h : ∀ v' w', OwnF w' base v' (L ++ [y]) → w.grownBy w' v.ownBlock → (v'.ownBlock = v.ownBlock ∨ v'.ownBlock = some w.heap.size) → wpList Try.prog ops Q rest (a.put o.dst v') w') : wpList Try.prog ops Q (o :: rest) a w := by
  have hI := fr_info3
  cases hq : Try.prog.info? 31 with
  | none => rw [hq] at hI; cases hI
  | some i =>
    rw [hq] at hI
    simp only [Option.map_some, Option.some.injEq, Prod.mk.injEq] at hI
    refine wpList_append_1 hgd s x _ ho base 31 i _ 19 128 Try.underlying22 hq hI.1 hI.2.1 hI.2.2 rfl (by omega) v L.length (frsC L) hs hown g c (frL y.m y.d y.r) _ hx rfl hcell (frL_one _ _ _) (by unfold maxLen; omega) (by omega) hbase (fun v' w' k1 k2 k3 => h v' w' ?_ k2 k3)
    unfold OwnF
    rw [frsC_app, List.length_append, show frsC [y] = frL y.m y.d y.r by simp [frsC]]
    exact k1
end Go.Proofs.Ytcobcgbpmkpljaa
