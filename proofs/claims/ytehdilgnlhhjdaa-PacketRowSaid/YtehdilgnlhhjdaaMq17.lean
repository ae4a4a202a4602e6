/-
  The document's own Unprotect, Of (narthexref9).
-/
import Derived.Test.YtehdilgnlhhjdaaJk
import Derived.Test.YtehdilgnlhhjdaaJf
namespace Go.Proofs.Ytehdilgnlhhjdaa
section
set_option linter.unusedVariables false
set_option linter.unusedSimpArgs false
open Go.RowKit Go.ChangeShapes Go.WideShapes Go.Deep
end
section
set_option linter.unusedVariables false
set_option linter.unusedSimpArgs false
open Go.RowKit
theorem parse_swap (x y : Int) (l : List Int) (h1 : x / 64 % 2 = y / 64 % 2) (h2 : x / 128 = y / 128) (h3 : x / 128 ≠ 0 → x / 16 % 4 = y / 16 % 4) : parseS (x :: l) = parseS (y :: l) := by
  unfold parseS
  simp only
  rw [(take_cons x l).1, (take_cons x l).2, (take_cons y l).1, (take_cons y l).2, h1, h2]
  by_cases h : y / 128 = 0
  · rw [if_pos h, if_pos h, List.length_cons, List.length_cons]
  · rw [if_neg h, if_neg h, h3 (by rw [h2]; exact h), List.length_cons, List.length_cons]
theorem xor_high (a v : Int) (k : Nat) (h0 : 0 ≤ a) (h1 : a < 256) (v0 : 0 ≤ v) (v1 : v < 2 ^ k) (hk : k ≤ 8) : xorB a v / 2 ^ k = a / 2 ^ k := by
  have hv : v < 256 := by
    obtain ⟨V, rfl⟩ := Int.eq_ofNat_of_zero_le v0
    have hV : V < 2 ^ k := by exact_mod_cast v1
    have h8 : 2 ^ k ≤ 2 ^ 8 := Nat.pow_le_pow_right (by decide) hk
    have : V < 2 ^ 8 := Nat.lt_of_lt_of_le hV h8
    omega
  unfold xorB
  rw [u8_xor _ _ h0 h1 v0 hv]
  obtain ⟨A, rfl⟩ := Int.eq_ofNat_of_zero_le h0
  obtain ⟨V, rfl⟩ := Int.eq_ofNat_of_zero_le v0
  have hV : V < 2 ^ k := by exact_mod_cast v1
  show (((A ^^^ V : Nat) : Int)) / ((2 : Int) ^ k) = (A : Int) / 2 ^ k
  have h : (A ^^^ V) / 2 ^ k = A / 2 ^ k := by
    rw [Nat.xor_div_two_pow, Nat.div_eq_of_lt hV, Nat.xor_zero]
  have h2 : (((A ^^^ V) / 2 ^ k : Nat) : Int) = ((A / 2 ^ k : Nat) : Int) := by rw [h]
  simpa using h2
theorem andB_le (a x : Int) (h0 : 0 ≤ a) (h1 : a < 256) (x0 : 0 ≤ x) (x1 : x < 256) : andB a x ≤ x := by
  unfold andB
  rw [u8_and _ _ h0 h1 x0 x1]
  have := Nat.and_le_right (n := a.toNat) (m := x.toNat)
  omega
theorem mask_first (m : HN) (z : Int) (h0 : 0 ≤ m.s) (h2 : m.s ≤ 2) (w0 : 1 ≤ m.w) (w4 : m.w ≤ 4) (z0 : 0 ≤ z) (z1 : z < 256) (l : List Int) :
    parseS (xorB (hfirst m) (andB z (mbits m.s)) :: l) = parseS (hfirst m :: l) := by
  obtain ⟨f0, f1, f2, f3, f4⟩ := hfirst_bd m h0 h2 w0 w4
  have hb := andB_bd z (mbits m.s)
  by_cases h : m.s = 2
  · have hle : andB z (mbits m.s) ≤ 31 := by
      have := andB_le z (mbits m.s) z0 z1 (by unfold mbits; split <;> omega) (by unfold mbits; split <;> omega)
      unfold mbits at this ⊢; rw [if_pos h] at this ⊢; exact this
    have hx := xor_high (hfirst m) (andB z (mbits m.s)) 5 f0 f1 hb.1 (by simp; omega) (by omega)
    simp at hx
    refine parse_swap _ _ _ ?_ ?_ ?_
    · omega
    · omega
    · intro h9; have := f3 h; omega
  · have hle : andB z (mbits m.s) ≤ 15 := by
      have := andB_le z (mbits m.s) z0 z1 (by unfold mbits; split <;> omega) (by unfold mbits; split <;> omega)
      unfold mbits at this ⊢; rw [if_neg h] at this ⊢; exact this
    have hx := xor_high (hfirst m) (andB z (mbits m.s)) 4 f0 f1 hb.1 (by simp; omega) (by omega)
    simp at hx
    refine parse_swap _ _ _ ?_ ?_ ?_
    · omega
    · omega
    · intro h9; omega
theorem turnB_at (bs ms : List Int) (a k : Nat) (x : Int) (i : Nat) (ha : 1 ≤ a) (hi : i < bs.length) :
    (turnB bs ms a k x)[i]? = some (if i = 0 then xorB (bs.getD 0 0) (andB (ms.getD 0 0) x) else if a ≤ i ∧ i < a + k then xorB (bs.getD i 0) (ms.getD (1 + (i - a)) 0) else bs.getD i 0) := by
  unfold turnB
  rw [turnL_at _ _ _ _ _ (by rw [turnF_len]; exact hi)]
  by_cases h0 : i = 0
  · subst h0
    rw [if_neg (by omega), if_pos rfl, turnF_head _ _ hi]
  · have hg : (turnF bs (andB (ms.getD 0 0) x)).getD i 0 = bs.getD i 0 := by
      unfold turnF
      rw [List.getD_eq_getElem?_getD, List.getElem?_set_ne (by omega), List.getD_eq_getElem?_getD]
    rw [if_neg h0, hg]
theorem turnB_turnB (bs ms : List Int) (a k : Nat) (x : Int) (ha : 1 ≤ a) (hb0 : 0 ≤ bs.getD 0 0 ∧ bs.getD 0 0 < 256) (hb : ∀ i, a ≤ i → i < a + k → 0 ≤ bs.getD i 0 ∧ bs.getD i 0 < 256) (hm : Byt ms) : turnB (turnB bs ms a k x) ms a k x = bs := by
  apply List.ext_getElem?
  intro i
  rcases Nat.lt_or_ge i bs.length with h | h
  · rw [turnB_at _ _ _ _ _ _ ha (by rw [turnB_len]; exact h)]
    have h0 : 0 < bs.length := by omega
    have g0 : (turnB bs ms a k x).getD 0 0 = xorB (bs.getD 0 0) (andB (ms.getD 0 0) x) := turnB_head _ _ _ _ _ ha h0
    have gi : (turnB bs ms a k x).getD i 0 = (if i = 0 then xorB (bs.getD 0 0) (andB (ms.getD 0 0) x) else if a ≤ i ∧ i < a + k then xorB (bs.getD i 0) (ms.getD (1 + (i - a)) 0) else bs.getD i 0) := by
      rw [List.getD_eq_getElem?_getD, turnB_at _ _ _ _ _ _ ha h]; rfl
    have hbi : bs[i]? = some (bs.getD i 0) := by rw [List.getD_eq_getElem?_getD, List.getElem?_eq_getElem h]; rfl
    rw [hbi]
    congr 1
    by_cases hi : i = 0
    · subst hi
      rw [if_pos rfl, g0, xorB_xorB _ _ hb0.1 hb0.2 (andB_bd _ _).1 (andB_bd _ _).2]
    · rw [if_neg hi, gi, if_neg hi]
      by_cases h2 : a ≤ i ∧ i < a + k
      · rw [if_pos h2, if_pos h2, xorB_xorB _ _ (hb i h2.1 h2.2).1 (hb i h2.1 h2.2).2 (hm.getD _).1 (hm.getD _).2]
      · rw [if_neg h2, if_neg h2]
  · rw [List.getElem?_eq_none (by rw [turnB_len, turnB_len]; exact h), List.getElem?_eq_none h]
theorem orL_eq (v x : Int) (h0 : 0 ≤ v) (h1 : v < 16777216) (h2 : 0 ≤ x) (h3 : x < 256) : bits BinOp.or IntKind.u32 (IntKind.u32.wrap (v * 256)) x = v * 256 + x := by
  rw [IntKind.wrap_u32, Int.emod_eq_of_lt (by omega) (by omega), u32_or _ _ (by omega) (by omega) h2 (by omega), nat_join 8 _ _ (by omega) (by omega)]; omega
theorem low_be (w : Nat) (C : Int) (h : w = 1 ∨ w = 2 ∨ w = 3 ∨ w = 4) (c0 : 0 ≤ C) (c1 : C < 256 ^ w) : lowS3 (beS w C) = C := by
  rcases h with rfl | rfl | rfl | rfl
  · simp [lowS3, beS, byteS, List.range, List.range.loop] at c1 ⊢
    rw [show IntKind.u32.wrap 0 = 0 * 256 from rfl, ← show IntKind.u32.wrap (0 * 256) = 0 * 256 from rfl, orL_eq _ _ (by omega) (by omega) (by omega) (by omega)]; omega
  · simp [lowS3, beS, byteS, List.range, List.range.loop] at c1 ⊢
    rw [show IntKind.u32.wrap 0 = IntKind.u32.wrap (0 * 256) from rfl, orL_eq 0 _ (by omega) (by omega) (by omega) (by omega), orL_eq _ _ (by omega) (by omega) (by omega) (by omega)]; omega
  · simp [lowS3, beS, byteS, List.range, List.range.loop] at c1 ⊢
    rw [show IntKind.u32.wrap 0 = IntKind.u32.wrap (0 * 256) from rfl, orL_eq 0 _ (by omega) (by omega) (by omega) (by omega), orL_eq (0 * 256 + C / 65536 % 256) _ (by omega) (by omega) (by omega) (by omega), orL_eq _ _ (by omega) (by omega) (by omega) (by omega)]; omega
  · simp [lowS3, beS, byteS, List.range, List.range.loop] at c1 ⊢
    rw [show IntKind.u32.wrap 0 = IntKind.u32.wrap (0 * 256) from rfl, orL_eq 0 _ (by omega) (by omega) (by omega) (by omega), orL_eq (0 * 256 + C / 16777216 % 256) _ (by omega) (by omega) (by omega) (by omega), orL_eq ((0 * 256 + C / 16777216 % 256) * 256 + C / 65536 % 256) _ (by omega) (by omega) (by omega) (by omega), orL_eq _ _ (by omega) (by omega) (by omega) (by omega)]; omega
theorem hfirst_head (m : HN) (tok : List Int) (n : Int) : ∃ r, hencS m tok n = hfirst m :: r := by
  unfold hencS
  split
  · exact ⟨_, rfl⟩
  · exact ⟨0 :: 0 :: 0 :: 1 :: 8 :: (m.t.l ++ 8 :: (m.f.l ++ ((if m.s = 0 then textB tok else []) ++ twoB (16384 + n)))), by simp only [List.cons_append, List.nil_append, List.append_assoc]⟩
theorem cut_win (n k : Int) (h : 1 ≤ k) (h4 : k ≤ 4) : 0 ≤ cutS n k ∧ cutS n k < 256 ^ k.toNat := by
  unfold cutS
  rcases (show k = 1 ∨ k = 2 ∨ k = 3 ∨ k = 4 by omega) with rfl | rfl | rfl | rfl
  · rw [win_vals.1]; exact ⟨by omega, by show n % 256 < 256 ^ 1; omega⟩
  · rw [win_vals.2.1]; exact ⟨by omega, by show n % 65536 < 256 ^ 2; omega⟩
  · rw [win_vals.2.2.1]; exact ⟨by omega, by show n % 16777216 < 256 ^ 3; omega⟩
  · rw [win_vals.2.2.2]; exact ⟨by omega, by show n % 4294967296 < 256 ^ 4; omega⟩
/-- What was protected, more behind it unless it is of Data. -/
theorem rev_pack (sk mk n : Int) (m : HN) (tok pay more : List Int) (hmay : mayB n m tok pay = true) (htb : Byt m.t.l) (hfb : Byt m.f.l) (hkb : Byt tok) (hpb : Byt pay) (hmore : m.s = 2 → more = []) :
    revS mk (packS sk mk n m tok pay ++ more) = some ⟨m, tok, cutS n m.w, bareS sk n m tok pay, (hencS m tok (m.w + pay.length + 8)).length + m.w.toNat, (packS sk mk n m tok pay).length⟩ ∧
    (hencS m tok (m.w + pay.length + 8)).length + m.w.toNat ≤ (bareS sk n m tok pay).length := by
  have hh := hmay
  unfold mayB at hh
  simp only [Bool.and_eq_true, decide_eq_true_eq] at hh
  obtain ⟨⟨⟨hr, hn⟩, hw⟩, hl⟩ := hh
  obtain ⟨s0, s2, w0, w4, t32, t0, p0, f0⟩ := hright_parts _ _ hr
  obtain ⟨r, hhd⟩ := hfirst_head m tok (m.w + pay.length + 8)
  obtain ⟨f1, f2, f3, f4, f5⟩ := hfirst_bd m s0 s2 w0 w4
  have hpk : packS sk mk n m tok pay = turnB (bareS sk n m tok pay) (maskS mk (samS (bareS sk n m tok pay) (hencS m tok (m.w + pay.length + 8)).length)) (hencS m tok (m.w + pay.length + 8)).length m.w.toNat (mbits m.s) := rfl
  have hbare : bareS sk n m tok pay = hencS m tok (m.w + pay.length + 8) ++ (beS m.w.toNat (cutS n m.w) ++ sealS sk n (hencS m tok (m.w + pay.length + 8) ++ beS m.w.toNat (cutS n m.w)) pay) := by unfold bareS; rw [List.append_assoc]
  have hbl : (bareS sk n m tok pay).length = (hencS m tok (m.w + pay.length + 8)).length + m.w.toNat + (pay.length + 8) := by
    rw [hbare, List.length_append, List.length_append, beS_len, sealS_len]; omega
  obtain ⟨H, hH⟩ : ∃ H, hencS m tok (m.w + pay.length + 8) = H := ⟨_, rfl⟩
  have hpe := fun l hl => parse_enc m tok (m.w + pay.length + 8) l s0 s2 w0 w4 t32 (fun h => by rcases t0 with h' | h'; exact absurd h' h; exact List.eq_nil_of_length_eq_zero h') f0 (by omega) (by omega) hl
  rw [hH] at hpk hbare hbl hhd hl hpe ⊢
  obtain ⟨k, hk⟩ : ∃ k : Nat, m.w = k := ⟨m.w.toNat, by omega⟩
  have hkn : m.w.toNat = k := by omega
  rw [hkn] at hpk hbare hbl ⊢
  obtain ⟨C, hC⟩ : ∃ C, cutS n m.w = C := ⟨_, rfl⟩
  have hCb := cut_win n m.w w0 w4
  rw [hC, hkn] at hCb
  rw [hC] at hbare ⊢
  obtain ⟨X, hX⟩ : ∃ X, sealS sk n (H ++ beS k C) pay = X := ⟨_, rfl⟩
  rw [hX] at hbare
  obtain ⟨B, hB⟩ : ∃ B, bareS sk n m tok pay = B := ⟨_, rfl⟩
  rw [hB] at hpk hbare hbl ⊢
  obtain ⟨ms, hms⟩ : ∃ x, maskS mk (samS B H.length) = x := ⟨_, rfl⟩
  have hmb : Byt ms := by rw [← hms]; exact (b8_byt _).take 5
  rw [hms] at hpk
  obtain ⟨P, hP⟩ : ∃ P, packS sk mk n m tok pay = P := ⟨_, rfl⟩
  rw [hP] at hpk ⊢
  have hHl : 1 ≤ H.length := by rw [hhd]; simp
  have hPl : P.length = H.length + k + (pay.length + 8) := by rw [hpk, turnB_len, hbl]
  obtain ⟨v, hv⟩ : ∃ v, andB (ms.getD 0 0) (mbits m.s) = v := ⟨_, rfl⟩
  have hvb : 0 ≤ v ∧ v < 256 := by rw [← hv]; exact andB_bd _ _
  have hB0 : B.getD 0 0 = hfirst m := by rw [hbare, hhd]; rfl
  have hPt : P.take H.length = xorB (hfirst m) v :: r := by
    rw [hpk, ← turnB_take _ _ _ _ _ _ hHl, hbare, List.take_append_of_le_length (Nat.le_refl _), List.take_length]
    unfold turnB
    rw [hv, hhd]
    have hid : ∀ l : List Int, turnL l ms l.length k = l := fun l => by
      apply List.ext_getElem?
      intro i
      rcases Nat.lt_or_ge i l.length with h | h
      · rw [turnL_at _ _ _ _ _ h, if_neg (by omega), List.getD_eq_getElem?_getD, List.getElem?_eq_getElem h]; rfl
      · rw [List.getElem?_eq_none (by rw [turnL_len]; exact h), List.getElem?_eq_none h]
    have := hid (turnF (hfirst m :: r) v)
    rw [turnF_len] at this
    rw [this]; rfl
  have hPs : P ++ more = xorB (hfirst m) v :: (r ++ (P.drop H.length ++ more)) := by
    rw [← List.cons_append, ← hPt, ← List.append_assoc, List.take_append_drop]
  have hparse : parseS (P ++ more) = some ((⟨m.s, m.t, m.f, 1, false⟩ : HN), tok, (H.length : Int), (P.length : Int)) := by
    rw [hPs, ← hv, mask_first m (ms.getD 0 0) s0 s2 w0 w4 (hmb.getD 0).1 (hmb.getD 0).2, ← List.cons_append, ← hhd, hpe _ (by rw [List.length_append, List.length_drop]; omega)]
    congr 4
    by_cases h2 : m.s = 2
    · rw [if_pos h2, hmore h2, List.append_nil, List.length_append, List.length_drop]; omega
    · rw [if_neg h2]; omega
  have hsam : samS (P ++ more) H.length = samS B H.length := by
    unfold samS
    rw [List.drop_append_of_le_length (by omega), List.take_append_of_le_length (by rw [List.length_drop]; omega), hpk, turnB_drop _ _ _ _ _ _ (by omega) (by omega)]
  have hPh : (P ++ more).getD 0 0 = xorB (hfirst m) v := by rw [hPs]; rfl
  have hfu : firstU mk (P ++ more) ⟨m.s, m.t, m.f, 1, false⟩ H.length = hfirst m := by
    unfold firstU
    rw [hsam, hms, hPh]
    show xorB (xorB (hfirst m) v) (andB (ms.getD 0 0) (mbits m.s)) = _
    rw [hv, xorB_xorB _ _ f1 f2 hvb.1 hvb.2]
  have hw' : (hfirst m % 4 + 1).toNat = k ∧ hfirst m % 4 + 1 = m.w := by
    unfold hfirst
    by_cases h2 : m.s = 2
    · rw [if_pos h2]; split <;> omega
    · rw [if_neg h2]; omega
  have hph : (decide (m.s = 2) && decide (hfirst m / 4 % 2 = 1)) = m.ph := by
    unfold hfirst
    by_cases h2 : m.s = 2
    · rw [if_pos h2, decide_eq_true h2]
      cases hp : m.ph
      · rw [if_neg (by decide)]; exact decide_eq_false (by omega)
      · rw [if_pos rfl]; exact decide_eq_true (by omega)
    · rw [decide_eq_false h2]
      rcases p0 with h | h
      · exact absurd h h2
      · rw [h]; rfl
  have hnum : ∀ i, H.length ≤ i → i < H.length + k → 0 ≤ B.getD i 0 ∧ B.getD i 0 < 256 := fun i h1 h2 => by
    rw [hbare, List.getD_eq_getElem?_getD, List.getElem?_append_right h1, List.getElem?_append_left (by rw [beS_len]; omega), ← List.getD_eq_getElem?_getD]
    exact (beS_byt k C).getD _
  have hinv : turnB P ms H.length k (mbits m.s) = B := by rw [hpk]; exact turnB_turnB B ms _ _ _ hHl (by rw [hB0]; exact ⟨f1, f2⟩) hnum hmb
  have hlow : ((B.drop H.length).take k) = beS k C := by
    rw [hbare, List.drop_append_of_le_length (Nat.le_refl _), List.drop_length, List.nil_append, List.take_append_of_le_length (by rw [beS_len]; omega), List.take_of_length_le (by rw [beS_len]; omega)]
  refine ⟨?_, by rw [hbl]; omega⟩
  unfold revS
  rw [hparse]
  simp only [Int.toNat_natCast]
  rw [hsam, hms, hfu, hw'.1, List.take_append_of_le_length (Nat.le_refl _), List.take_length, hinv, hlow, low_be k C (by omega) hCb.1 hCb.2]
  congr 2
  unfold revHN
  simp only
  rw [hw'.2, hph]
end
end Go.Proofs.Ytehdilgnlhhjdaa
