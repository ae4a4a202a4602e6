/-
  Params' bytes read again: what was written is read, in any order; beginnings are none; a name that comes twice is refused.
-/
import Derived.Test.YthpcfcnkpipmnaaPd
namespace Go.Proofs.Ythpcfcnkpipmnaa
set_option linter.unusedVariables false
set_option linter.unusedSimpArgs false
open Go.RowKit Go.ChangeShapes Go.WideShapes Go.Deep
theorem getS_sz (bs : List Int) : (getS bs).2 = 0 ∨ (1 ≤ (getS bs).2 ∧ (getS bs).2 ≤ bs.length) := by
  by_cases hn : bs = []
  · left; subst hn; simp [getS]
  · rcases Nat.lt_or_ge bs.length (szS (bs.getD 0 0)) with h | h
    · left; rw [get_short bs hn h]
    · right
      have hs := szS_bd (bs.getD 0 0)
      rw [get_full bs hn h]
      exact ⟨by show (1 : Int) ≤ ((szS (bs.getD 0 0) : Nat) : Int); omega, by show ((szS (bs.getD 0 0) : Nat) : Int) ≤ _; omega⟩
theorem dec_lt' (s : St) (h : s.1 ≠ []) (h2 : (textN (varN s)).2 = false) : (textN (varN s)).1.length < s.1.length := by
  have h1 : (textN (varN s)).1.length ≤ (varN s).1.length := Nat.le_trans (takeN_le _ _) (varN_le _)
  have h3 : (varN s).1.length < s.1.length := by
    rcases getS_sz s.1 with hz | ⟨h4, h5⟩
    · exfalso
      have e : varN s = ([], true) := by unfold varN; rw [if_pos hz]
      rw [e] at h2
      have : textN ([], true) = ([], true) := by unfold textN; rw [var_spoilt.1, var_spoilt.2]; exact (spoilt 0).2
      rw [this] at h2
      cases h2
    · have e : varN s = takeN s (getS s.1).2 := by unfold varN; rw [if_neg (by omega)]
      rw [e]; unfold takeN
      rw [if_pos ⟨by omega, h5⟩]
      have : 0 < s.1.length := List.length_pos_iff.2 h
      show (s.1.drop _).length < _
      rw [List.length_drop]
      omega
  omega
theorem decP_fuel : ∀ (k k' : Nat) (s : St) (t : TK), s.1.length ≤ k → s.1.length ≤ k' → decP k s t = decP k' s t
  | 0, k', s, t, h, h' => by
    have hn : s.1 = [] := List.eq_nil_of_length_eq_zero (by omega)
    cases k' <;> simp [decP, hn]
  | k + 1, k', s, t, h, h' => by
    by_cases hn : s.1 = []
    · cases k' <;> simp [decP, hn]
    · have hp : 0 < s.1.length := List.length_pos_iff.2 hn
      obtain ⟨q, rfl⟩ : ∃ q, k' = q + 1 := ⟨k' - 1, by omega⟩
      unfold decP
      rw [if_neg hn, if_neg hn]
      cases hb : (textN (varN s)).2 with
      | true => rfl
      | false =>
        have hl := dec_lt' s hn hb
        simp only [Bool.false_eq_true, if_false]
        cases takeS t (varR s) (textR (varN s)) with
        | none => rfl
        | some t' => exact decP_fuel k q _ t' (by omega) (by omega)
theorem decP_step (q : Nat) (s : St) (t : TK) (hn : s.1 ≠ []) : decP (q + 1) s t = if (textN (varN s)).2 then none else match takeS t (varR s) (textR (varN s)) with
    | none => none
    | some t' => decP q (textN (varN s)) t' := by
  rw [decP, if_neg hn]
  rfl
/-- The rest of the bytes, read behind what was read so far. -/
def dec (bs : List Int) (t : TK) : Option TK := decP bs.length (bs, false) t
theorem dec_nil (t : TK) : dec [] t = some t := rfl
theorem decodeS_dec (bs : List Int) : decodeS bs = finT (dec bs .zero) := rfl
theorem Vr_small (n : Int) (h0 : 0 ≤ n) (h1 : n ≤ 4611686018427387903) : Vr n := ⟨h0, h1⟩
theorem dec_row (id : Int) (x more : List Int) (t : TK) (hid : Vr id) (hx : x.length ≤ 1000000) (hne : putS id ≠ []) :
    dec (putS id ++ textB x ++ more) t = match takeS t id x with | none => none | some t' => dec more t' := by
  have e1 := var_app id hid (textB x ++ more)
  have e2 := text_app x more hx
  have hn : putS id ++ textB x ++ more ≠ [] := by
    intro h; rw [List.append_assoc] at h; exact hne (List.append_eq_nil_iff.1 h).1
  have hp : 0 < (putS id ++ textB x ++ more).length := List.length_pos_iff.2 hn
  have hm : more.length < (putS id ++ textB x ++ more).length := by
    have : 0 < (putS id).length := List.length_pos_iff.2 hne
    simp only [List.length_append]; omega
  obtain ⟨q, hq⟩ : ∃ q, (putS id ++ textB x ++ more).length = q + 1 := ⟨(putS id ++ textB x ++ more).length - 1, by omega⟩
  unfold dec
  rw [hq, decP_step q _ t hn]
  rw [List.append_assoc] at hq hm ⊢
  rw [e1.1, e1.2, e2.1, e2.2]
  simp only [Bool.false_eq_true, if_false]
  cases takeS t id x with
  | none => rfl
  | some t' => exact decP_fuel q more.length (more, false) t' (by show more.length ≤ q; omega) (Nat.le_refl _)
theorem text_false (s : St) (h : (textN s).2 = false) : s.2 = false := var_false s (take_false (varN s) (varR s) h)
theorem dec_cut (id : Int) (x : List Int) (t : TK) (hid : Vr id) (hx : x.length ≤ 1000000) (k : Nat) (hk0 : 0 < k) (hk : k < (putS id ++ textB x).length) :
    dec ((putS id ++ textB x).take k) t = none := by
  have hl : ((putS id ++ textB x).take k).length = k := by rw [List.length_take]; omega
  have hn : (putS id ++ textB x).take k ≠ [] := by intro h; rw [h] at hl; simp at hl; omega
  obtain ⟨q, rfl⟩ : ∃ q, k = q + 1 := ⟨k - 1, by omega⟩
  unfold dec
  rw [hl, decP_step q _ t hn]
  cases hb : (textN (varN ((putS id ++ textB x).take (q + 1), false))).2 with
  | true => rfl
  | false =>
    exfalso
    have h1 := text_false _ hb
    have e1 := var_ext ((putS id ++ textB x).take (q + 1), false) ((putS id ++ textB x).drop (q + 1)) h1
    have e2 := text_ext (varN ((putS id ++ textB x).take (q + 1), false)) ((putS id ++ textB x).drop (q + 1)) hb
    have a1 := var_app id hid (textB x)
    have a2 := text_app x [] hx
    rw [List.append_nil] at a2
    simp only [List.take_append_drop] at e1
    rw [a1.2] at e1
    have e3 := e1.2
    rw [← e3] at e2
    rw [a2.2] at e2
    have e4 := congrArg (fun z : St => z.1.length) e2.2
    simp only [List.length_append, List.length_nil, List.length_drop] at e4
    rw [List.length_append] at hk
    omega
theorem numOk_put (n : Int) (h : Vr n) : numOk (putS n) = true ∧ numV (putS n) = n := by
  have e := var_app n h []
  rw [List.append_nil] at e
  unfold numOk numV
  rw [e.2, e.1]
  exact ⟨rfl, rfl⟩
theorem putS_nep (n : Int) (h : Vr n) : putS n ≠ [] := by
  intro h0
  have h1 := congrArg List.length h0
  rw [putS_len] at h1
  have := size_pos n h.2
  simp at h1
  omega
theorem bne_z (n : Int) : (n != 0) = if n = 0 then false else true := by
  by_cases h : n = 0 <;> simp [h]
theorem putS_le' (n : Int) : (putS n).length ≤ 1000000 := by rw [putS_len]; have := size_le n; omega
theorem dec_1 (n : Int) (hn : Vr n) (more : List Int) (d s m : Int) (c : N8) (z bd bs bm : Bool) :
    dec (numB 1 n ++ more) ⟨⟨0, d, s, m, c⟩, z, false, bd, bs, bm⟩ = dec more ⟨⟨n, d, s, m, c⟩, z, n != 0, bd, bs, bm⟩ := by
  unfold numB
  by_cases h : n = 0
  · subst h; rw [if_pos rfl]; rfl
  · rw [if_neg h, dec_row 1 (putS n) more _ ⟨by decide, by decide⟩ (putS_le' n) (by decide)]
    obtain ⟨h1, h2⟩ := numOk_put n hn
    have e : takeS ⟨⟨0, d, s, m, c⟩, z, false, bd, bs, bm⟩ 1 (putS n) = some ⟨⟨n, d, s, m, c⟩, z, n != 0, bd, bs, bm⟩ := by
      unfold takeS; simp [h1, h2, h]
    rw [e]
theorem dec_4 (n : Int) (hn : Vr n) (more : List Int) (i s m : Int) (c : N8) (z bi bs bm : Bool) :
    dec (numB 4 n ++ more) ⟨⟨i, 0, s, m, c⟩, z, bi, false, bs, bm⟩ = dec more ⟨⟨i, n, s, m, c⟩, z, bi, n != 0, bs, bm⟩ := by
  unfold numB
  by_cases h : n = 0
  · subst h; rw [if_pos rfl]; rfl
  · rw [if_neg h, dec_row 4 (putS n) more _ ⟨by decide, by decide⟩ (putS_le' n) (by decide)]
    obtain ⟨h1, h2⟩ := numOk_put n hn
    have e : takeS ⟨⟨i, 0, s, m, c⟩, z, bi, false, bs, bm⟩ 4 (putS n) = some ⟨⟨i, n, s, m, c⟩, z, bi, n != 0, bs, bm⟩ := by
      unfold takeS; simp [h1, h2, h]
    rw [e]
theorem dec_5 (n : Int) (hn : Vr n) (more : List Int) (i d m : Int) (c : N8) (z bi bd bm : Bool) :
    dec (numB 5 n ++ more) ⟨⟨i, d, 0, m, c⟩, z, bi, bd, false, bm⟩ = dec more ⟨⟨i, d, n, m, c⟩, z, bi, bd, n != 0, bm⟩ := by
  unfold numB
  by_cases h : n = 0
  · subst h; rw [if_pos rfl]; rfl
  · rw [if_neg h, dec_row 5 (putS n) more _ ⟨by decide, by decide⟩ (putS_le' n) (by decide)]
    obtain ⟨h1, h2⟩ := numOk_put n hn
    have e : takeS ⟨⟨i, d, 0, m, c⟩, z, bi, bd, false, bm⟩ 5 (putS n) = some ⟨⟨i, d, n, m, c⟩, z, bi, bd, n != 0, bm⟩ := by
      unfold takeS; simp [h1, h2, h]
    rw [e]
theorem dec_8 (n : Int) (hn : Vr n) (more : List Int) (i d s : Int) (c : N8) (z bi bd bs : Bool) :
    dec (numB 8 n ++ more) ⟨⟨i, d, s, 0, c⟩, z, bi, bd, bs, false⟩ = dec more ⟨⟨i, d, s, n, c⟩, z, bi, bd, bs, n != 0⟩ := by
  unfold numB
  by_cases h : n = 0
  · subst h; rw [if_pos rfl]; rfl
  · rw [if_neg h, dec_row 8 (putS n) more _ ⟨by decide, by decide⟩ (putS_le' n) (by decide)]
    obtain ⟨h1, h2⟩ := numOk_put n hn
    have e : takeS ⟨⟨i, d, s, 0, c⟩, z, bi, bd, bs, false⟩ 8 (putS n) = some ⟨⟨i, d, s, n, c⟩, z, bi, bd, bs, n != 0⟩ := by
      unfold takeS; simp [h1, h2, h]
    rw [e]
theorem dec_0 (cl : N8) (more : List Int) (i d s m : Int) (c : N8) (bi bd bs bm : Bool) :
    dec (putS 0 ++ textB cl.l ++ more) ⟨⟨i, d, s, m, c⟩, false, bi, bd, bs, bm⟩ = dec more ⟨⟨i, d, s, m, cl⟩, true, bi, bd, bs, bm⟩ := by
  rw [dec_row 0 cl.l more _ ⟨by decide, by decide⟩ (by show (8 : Nat) ≤ _; decide) (by decide)]
  rfl
theorem dec_00 (cl : N8) (more : List Int) (i d s m : Int) (c : N8) (bi bd bs bm : Bool) :
    dec (putS 0 ++ textB cl.l ++ more) ⟨⟨i, d, s, m, c⟩, true, bi, bd, bs, bm⟩ = none := by
  rw [dec_row 0 cl.l more _ ⟨by decide, by decide⟩ (by show (8 : Nat) ≤ _; decide) (by decide)]
  rfl
theorem dec_63 (x : List Int) (hx : x.length ≤ 1000000) (more : List Int) (t : TK) :
    dec (putS 63 ++ textB x ++ more) t = dec more t := by
  rw [dec_row 63 x more _ ⟨by decide, by decide⟩ hx (by decide)]
  rfl
theorem PN.vr (p : PN) (h : p.wf) (hr : prightB p = true) : Vr p.i ∧ Vr p.d ∧ Vr p.s ∧ Vr p.m := by
  unfold prightB at hr
  obtain ⟨r1, r2, r3, r4⟩ := of_decide_eq_true hr
  exact ⟨⟨h.i0, by omega⟩, ⟨h.d0, by omega⟩, ⟨h.s0, by omega⟩, ⟨h.m0, by omega⟩⟩
theorem dec_enc (p : PN) (h : p.wf) (hr : prightB p = true) : decodeS (pencS p) = some p := by
  obtain ⟨v1, v2, v3, v4⟩ := p.vr h hr
  obtain ⟨i, d, s, m, c⟩ := p
  rw [decodeS_dec]
  unfold pencS TK.zero PN.zero
  simp only at v1 v2 v3 v4 ⊢
  rw [List.append_assoc (numB 1 i ++ numB 4 d ++ numB 5 s), List.append_assoc (numB 1 i ++ numB 4 d), List.append_assoc (numB 1 i)]
  rw [dec_1 i v1, dec_4 d v2, dec_5 s v3, dec_8 m v4]
  rw [← List.append_nil (putS 0 ++ textB c.l), dec_0, dec_nil, finT_some]
  simp [hr]
theorem fin_cut_num (id n : Int) (hid : Vr id) (rest : List Int) (t t' : TK) (hz : t.z = false) (hd : ∀ more, dec (numB id n ++ more) t = dec more t') (hr : ∀ k, k < rest.length → finT (dec (rest.take k) t') = none) (k : Nat) (hk : k < (numB id n ++ rest).length) :
    finT (dec ((numB id n ++ rest).take k) t) = none := by
  rcases Nat.lt_or_ge k (numB id n).length with h | h
  · rw [List.take_append_of_le_length (by omega)]
    rcases Nat.eq_zero_or_pos k with rfl | hp
    · rw [List.take_zero, dec_nil, finT_some, hz]; rfl
    · by_cases hn : n = 0
      · unfold numB at h; rw [if_pos hn] at h; simp at h
      · have e : numB id n = putS id ++ textB (putS n) := by unfold numB; rw [if_neg hn]
        rw [e] at h ⊢
        rw [dec_cut id (putS n) t hid (putS_le' n) k hp h]
        rfl
  · obtain ⟨j, rfl⟩ : ∃ j, k = (numB id n).length + j := ⟨k - (numB id n).length, by omega⟩
    rw [List.take_length_add_append, hd]
    exact hr j (by rw [List.length_append] at hk; omega)
theorem dec_enc_cut (p : PN) (h : p.wf) (hr : prightB p = true) (k : Nat) (hk : k < (pencS p).length) : decodeS ((pencS p).take k) = none := by
  obtain ⟨v1, v2, v3, v4⟩ := p.vr h hr
  obtain ⟨i, d, s, m, c⟩ := p
  rw [decodeS_dec]
  unfold pencS at hk ⊢
  unfold TK.zero PN.zero
  simp only at v1 v2 v3 v4 hk ⊢
  rw [List.append_assoc (numB 1 i ++ numB 4 d ++ numB 5 s), List.append_assoc (numB 1 i ++ numB 4 d), List.append_assoc (numB 1 i)] at hk ⊢
  refine fin_cut_num 1 i ⟨by decide, by decide⟩ _ _ _ rfl (fun more => dec_1 i v1 more 0 0 0 .zero false false false false) ?_ k hk
  refine fin_cut_num 4 d ⟨by decide, by decide⟩ _ _ _ rfl (fun more => dec_4 d v2 more i 0 0 .zero false (i != 0) false false) ?_
  refine fin_cut_num 5 s ⟨by decide, by decide⟩ _ _ _ rfl (fun more => dec_5 s v3 more i d 0 .zero false (i != 0) (d != 0) false) ?_
  refine fin_cut_num 8 m ⟨by decide, by decide⟩ _ _ _ rfl (fun more => dec_8 m v4 more i d s .zero false (i != 0) (d != 0) (s != 0)) ?_
  intro j hj
  rcases Nat.eq_zero_or_pos j with rfl | hp
  · rfl
  · rw [dec_cut 0 c.l _ ⟨by decide, by decide⟩ (by show (8 : Nat) ≤ _; decide) j hp hj]; rfl
/-- The six rows, from some one on, one behind the other. -/
def rowS (p : PN) (x : List Int) (j : Nat) : List Int :=
  if j = 0 then numB 1 p.i else if j = 1 then numB 4 p.d else if j = 2 then numB 5 p.s else if j = 3 then numB 8 p.m else if j = 4 then putS 0 ++ textB p.c.l else putS 63 ++ textB x
def turnS (p : PN) (x : List Int) (k : Nat) : List Int := rowS p x (k % 6) ++ (rowS p x ((1 + k) % 6) ++ (rowS p x ((2 + k) % 6) ++ (rowS p x ((3 + k) % 6) ++ (rowS p x ((4 + k) % 6) ++ rowS p x ((5 + k) % 6)))))
theorem dec_turn (p : PN) (h : p.wf) (hr : prightB p = true) (x : List Int) (hx : x.length ≤ 1000000) (k : Nat) (hk : k < 6) (more : List Int) :
    dec (turnS p x k ++ more) .zero = dec more ⟨p, true, p.i != 0, p.d != 0, p.s != 0, p.m != 0⟩ := by
  obtain ⟨v1, v2, v3, v4⟩ := p.vr h hr
  obtain ⟨i, d, s, m, c⟩ := p
  simp only at v1 v2 v3 v4
  have hk6 : k = 0 ∨ k = 1 ∨ k = 2 ∨ k = 3 ∨ k = 4 ∨ k = 5 := by omega
  have D1 := fun more => dec_1 i v1 more
  have D4 := fun more => dec_4 d v2 more
  have D5 := fun more => dec_5 s v3 more
  have D8 := fun more => dec_8 m v4 more
  have D0 := fun more => dec_0 c more
  have D63 := fun more => dec_63 x hx more
  unfold TK.zero PN.zero
  rcases hk6 with rfl | rfl | rfl | rfl | rfl | rfl
  all_goals
    simp only [turnS, rowS, Nat.reduceMod, Nat.reduceAdd, Nat.reduceEqDiff, if_true, if_false, List.append_assoc]
    simp only [← List.append_assoc (putS 0), ← List.append_assoc (putS 63)]
    simp only [D1, D4, D5, D8, D0, D63]
theorem dec_turn_yes (p : PN) (h : p.wf) (hr : prightB p = true) (x : List Int) (hx : x.length ≤ 1000000) (k : Nat) (hk : k < 6) : decodeS (turnS p x k) = some p := by
  have e := dec_turn p h hr x hx k hk []
  rw [List.append_nil] at e
  rw [decodeS_dec, e, dec_nil, finT_some]
  simp [hr]
theorem dec_turn_no (p : PN) (h : p.wf) (hr : prightB p = true) (x : List Int) (hx : x.length ≤ 1000000) (k : Nat) (hk : k < 6) : decodeS (turnS p x k ++ (putS 0 ++ textB p.c.l)) = none := by
  rw [decodeS_dec, dec_turn p h hr x hx k hk, ← List.append_nil (putS 0 ++ textB p.c.l)]
  obtain ⟨i, d, s, m, c⟩ := p
  rw [dec_00]
  rfl
end Go.Proofs.Ythpcfcnkpipmnaa
