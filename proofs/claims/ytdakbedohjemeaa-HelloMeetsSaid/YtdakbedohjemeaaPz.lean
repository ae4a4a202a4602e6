/-
  Params' bytes read again: what was written is read, in any order; beginnings are none; a name that comes twice is refused.
-/
import Derived.Test.YtdakbedohjemeaaPd
namespace Go.Proofs.Ytdakbedohjemeaa
set_option linter.unusedVariables false
set_option linter.unusedSimpArgs false
open Go.RowKit Go.ChangeShapes Go.WideShapes Go.Deep
theorem getS_sz (bs : List Int) : (getS bs).2 = 0 ∨ (1 ≤ (getS bs).2 ∧ (getS bs).2 ≤ bs.length) := by
  by_cases hn : bs = []
  · left; subst hn; simp [getS]
  · rcases Nat.lt_or_ge bs.length (szS (bs.getD 0 0)) with h | h
    · left; rw [get_short bs hn h]
    · right
      have hs := szS_bd (bs.getD 0 0)
      rw [get_full bs hn h]
      exact ⟨by show (1 : Int) ≤ ((szS (bs.getD 0 0) : Nat) : Int); omega, by show ((szS (bs.getD 0 0) : Nat) : Int) ≤ _; omega⟩
theorem dec_lt' (s : St) (h : s.1 ≠ []) (h2 : (textN (varN s)).2 = false) : (textN (varN s)).1.length < s.1.length := by
  have h1 : (textN (varN s)).1.length ≤ (varN s).1.length := Nat.le_trans (takeN_le _ _) (varN_le _)
  have h3 : (varN s).1.length < s.1.length := by
    rcases getS_sz s.1 with hz | ⟨h4, h5⟩
    · exfalso
      have e : varN s = ([], true) := by unfold varN; rw [if_pos hz]
      rw [e] at h2
      have : textN ([], true) = ([], true) := by unfold textN; rw [var_spoilt.1, var_spoilt.2]; exact (spoilt 0).2
      rw [this] at h2
      cases h2
    · have e : varN s = takeN s (getS s.1).2 := by unfold varN; rw [if_neg (by omega)]
      rw [e]; unfold takeN
      rw [if_pos ⟨by omega, h5⟩]
      have : 0 < s.1.length := List.length_pos_iff.2 h
      show (s.1.drop _).length < _
      rw [List.length_drop]
      omega
  omega
theorem decP_fuel : ∀ (k k' : Nat) (s : St) (t : TK), s.1.length ≤ k → s.1.length ≤ k' → decP k s t = decP k' s t
  | 0, k', s, t, h, h' => by
    have hn : s.1 = [] := List.eq_nil_of_length_eq_zero (by omega)
    cases k' <;> simp [decP, hn]
  | k + 1, k', s, t, h, h' => by
    by_cases hn : s.1 = []
    · cases k' <;> simp [decP, hn]
    · have hp : 0 < s.1.length := List.length_pos_iff.2 hn
      obtain ⟨q, rfl⟩ : ∃ q, k' = q + 1 := ⟨k' - 1, by omega⟩
      unfold decP
      rw [if_neg hn, if_neg hn]
      cases hb : (textN (varN s)).2 with
      | true => rfl
      | false =>
        have hl := dec_lt' s hn hb
        simp only [Bool.false_eq_true, if_false]
        cases takeS t (varR s) (textR (varN s)) with
        | none => rfl
        | some t' => exact decP_fuel k q _ t' (by omega) (by omega)
theorem decP_step (q : Nat) (s : St) (t : TK) (hn : s.1 ≠ []) : decP (q + 1) s t = if (textN (varN s)).2 then none else match takeS t (varR s) (textR (varN s)) with
    | none => none
    | some t' => decP q (textN (varN s)) t' := by
  rw [decP, if_neg hn]
  rfl
/-- The rest of the bytes, read behind what was read so far. -/
def dec (bs : List Int) (t : TK) : Option TK := decP bs.length (bs, false) t
theorem dec_nil (t : TK) : dec [] t = some t := rfl
theorem decodeS_dec (bs : List Int) : decodeS bs = finT (dec bs .zero) := rfl
theorem dec_row (id : Int) (x more : List Int) (t : TK) (hid : Vr id) (hx : x.length ≤ 1000000) (hne : putS id ≠ []) :
    dec (putS id ++ textB x ++ more) t = match takeS t id x with | none => none | some t' => dec more t' := by
  have e1 := var_app id hid (textB x ++ more)
  have e2 := text_app x more hx
  have hn : putS id ++ textB x ++ more ≠ [] := by
    intro h; rw [List.append_assoc] at h; exact hne (List.append_eq_nil_iff.1 h).1
  have hp : 0 < (putS id ++ textB x ++ more).length := List.length_pos_iff.2 hn
  have hm : more.length < (putS id ++ textB x ++ more).length := by
    have : 0 < (putS id).length := List.length_pos_iff.2 hne
    simp only [List.length_append]; omega
  obtain ⟨q, hq⟩ : ∃ q, (putS id ++ textB x ++ more).length = q + 1 := ⟨(putS id ++ textB x ++ more).length - 1, by omega⟩
  unfold dec
  rw [hq, decP_step q _ t hn]
  rw [List.append_assoc] at hq hm ⊢
  rw [e1.1, e1.2, e2.1, e2.2]
  simp only [Bool.false_eq_true, if_false]
  cases takeS t id x with
  | none => rfl
  | some t' => exact decP_fuel q more.length (more, false) t' (by show more.length ≤ q; omega) (Nat.le_refl _)
theorem numOk_put (n : Int) (h : Vr n) : numOk (putS n) = true ∧ numV (putS n) = n := by
  have e := var_app n h []
  rw [List.append_nil] at e
  unfold numOk numV
  rw [e.2, e.1]
  exact ⟨rfl, rfl⟩
theorem putS_le' (n : Int) : (putS n).length ≤ 1000000 := by rw [putS_len]; have := size_le n; omega
theorem dec_1 (n : Int) (hn : Vr n) (more : List Int) (d s m : Int) (c : N8) (z bd bs bm : Bool) :
    dec (numB 1 n ++ more) ⟨⟨0, d, s, m, c⟩, z, false, bd, bs, bm⟩ = dec more ⟨⟨n, d, s, m, c⟩, z, n != 0, bd, bs, bm⟩ := by
  unfold numB
  by_cases h : n = 0
  · subst h; rw [if_pos rfl]; rfl
  · rw [if_neg h, dec_row 1 (putS n) more _ ⟨by decide, by decide⟩ (putS_le' n) (by decide)]
    obtain ⟨h1, h2⟩ := numOk_put n hn
    have e : takeS ⟨⟨0, d, s, m, c⟩, z, false, bd, bs, bm⟩ 1 (putS n) = some ⟨⟨n, d, s, m, c⟩, z, n != 0, bd, bs, bm⟩ := by
      unfold takeS; simp [h1, h2, h]
    rw [e]
theorem dec_4 (n : Int) (hn : Vr n) (more : List Int) (i s m : Int) (c : N8) (z bi bs bm : Bool) :
    dec (numB 4 n ++ more) ⟨⟨i, 0, s, m, c⟩, z, bi, false, bs, bm⟩ = dec more ⟨⟨i, n, s, m, c⟩, z, bi, n != 0, bs, bm⟩ := by
  unfold numB
  by_cases h : n = 0
  · subst h; rw [if_pos rfl]; rfl
  · rw [if_neg h, dec_row 4 (putS n) more _ ⟨by decide, by decide⟩ (putS_le' n) (by decide)]
    obtain ⟨h1, h2⟩ := numOk_put n hn
    have e : takeS ⟨⟨i, 0, s, m, c⟩, z, bi, false, bs, bm⟩ 4 (putS n) = some ⟨⟨i, n, s, m, c⟩, z, bi, n != 0, bs, bm⟩ := by
      unfold takeS; simp [h1, h2, h]
    rw [e]
theorem dec_5 (n : Int) (hn : Vr n) (more : List Int) (i d m : Int) (c : N8) (z bi bd bm : Bool) :
    dec (numB 5 n ++ more) ⟨⟨i, d, 0, m, c⟩, z, bi, bd, false, bm⟩ = dec more ⟨⟨i, d, n, m, c⟩, z, bi, bd, n != 0, bm⟩ := by
  unfold numB
  by_cases h : n = 0
  · subst h; rw [if_pos rfl]; rfl
  · rw [if_neg h, dec_row 5 (putS n) more _ ⟨by decide, by decide⟩ (putS_le' n) (by decide)]
    obtain ⟨h1, h2⟩ := numOk_put n hn
    have e : takeS ⟨⟨i, d, 0, m, c⟩, z, bi, bd, false, bm⟩ 5 (putS n) = some ⟨⟨i, d, n, m, c⟩, z, bi, bd, n != 0, bm⟩ := by
      unfold takeS; simp [h1, h2, h]
    rw [e]
theorem dec_8 (n : Int) (hn : Vr n) (more : List Int) (i d s : Int) (c : N8) (z bi bd bs : Bool) :
    dec (numB 8 n ++ more) ⟨⟨i, d, s, 0, c⟩, z, bi, bd, bs, false⟩ = dec more ⟨⟨i, d, s, n, c⟩, z, bi, bd, bs, n != 0⟩ := by
  unfold numB
  by_cases h : n = 0
  · subst h; rw [if_pos rfl]; rfl
  · rw [if_neg h, dec_row 8 (putS n) more _ ⟨by decide, by decide⟩ (putS_le' n) (by decide)]
    obtain ⟨h1, h2⟩ := numOk_put n hn
    have e : takeS ⟨⟨i, d, s, 0, c⟩, z, bi, bd, bs, false⟩ 8 (putS n) = some ⟨⟨i, d, s, n, c⟩, z, bi, bd, bs, n != 0⟩ := by
      unfold takeS; simp [h1, h2, h]
    rw [e]
theorem dec_0 (cl : N8) (more : List Int) (i d s m : Int) (c : N8) (bi bd bs bm : Bool) :
    dec (putS 0 ++ textB cl.l ++ more) ⟨⟨i, d, s, m, c⟩, false, bi, bd, bs, bm⟩ = dec more ⟨⟨i, d, s, m, cl⟩, true, bi, bd, bs, bm⟩ := by
  rw [dec_row 0 cl.l more _ ⟨by decide, by decide⟩ (by show (8 : Nat) ≤ _; decide) (by decide)]
  rfl
theorem PN.vr (p : PN) (h : p.wf) (hr : prightB p = true) : Vr p.i ∧ Vr p.d ∧ Vr p.s ∧ Vr p.m := by
  unfold prightB at hr
  obtain ⟨r1, r2, r3, r4⟩ := of_decide_eq_true hr
  exact ⟨⟨h.i0, by omega⟩, ⟨h.d0, by omega⟩, ⟨h.s0, by omega⟩, ⟨h.m0, by omega⟩⟩
theorem dec_enc (p : PN) (h : p.wf) (hr : prightB p = true) : decodeS (pencS p) = some p := by
  obtain ⟨v1, v2, v3, v4⟩ := p.vr h hr
  obtain ⟨i, d, s, m, c⟩ := p
  rw [decodeS_dec]
  unfold pencS TK.zero PN.zero
  simp only at v1 v2 v3 v4 ⊢
  rw [List.append_assoc (numB 1 i ++ numB 4 d ++ numB 5 s), List.append_assoc (numB 1 i ++ numB 4 d), List.append_assoc (numB 1 i)]
  rw [dec_1 i v1, dec_4 d v2, dec_5 s v3, dec_8 m v4]
  rw [← List.append_nil (putS 0 ++ textB c.l), dec_0, dec_nil, finT_some]
  simp [hr]
end Go.Proofs.Ytdakbedohjemeaa
