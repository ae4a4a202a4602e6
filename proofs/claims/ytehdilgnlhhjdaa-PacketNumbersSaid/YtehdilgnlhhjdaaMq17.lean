/-
  What was protected is unprotected: the mathematics.
-/
import Derived.Test.YtehdilgnlhhjdaaJl
import Derived.Test.YtehdilgnlhhjdaaJn
namespace Go.Proofs.Ytehdilgnlhhjdaa
section
set_option linter.unusedVariables false
set_option linter.unusedSimpArgs false
open Go.RowKit
theorem parse_swap (x y : Int) (l : List Int) (h1 : x / 64 % 2 = y / 64 % 2) (h2 : x / 128 = y / 128) (h3 : x / 128 ≠ 0 → x / 16 % 4 = y / 16 % 4) : parseS (x :: l) = parseS (y :: l) := by
  unfold parseS
  simp only
  rw [(take_cons x l).1, (take_cons x l).2, (take_cons y l).1, (take_cons y l).2, h1, h2]
  by_cases h : y / 128 = 0
  · rw [if_pos h, if_pos h, List.length_cons, List.length_cons]
  · rw [if_neg h, if_neg h, h3 (by rw [h2]; exact h), List.length_cons, List.length_cons]
theorem xor_high (a v : Int) (k : Nat) (h0 : 0 ≤ a) (h1 : a < 256) (v0 : 0 ≤ v) (v1 : v < 2 ^ k) (hk : k ≤ 8) : xorB a v / 2 ^ k = a / 2 ^ k := by
  have hv : v < 256 := by
    obtain ⟨V, rfl⟩ := Int.eq_ofNat_of_zero_le v0
    have hV : V < 2 ^ k := by exact_mod_cast v1
    have h8 : 2 ^ k ≤ 2 ^ 8 := Nat.pow_le_pow_right (by decide) hk
    have : V < 2 ^ 8 := Nat.lt_of_lt_of_le hV h8
    omega
  unfold xorB
  rw [u8_xor _ _ h0 h1 v0 hv]
  obtain ⟨A, rfl⟩ := Int.eq_ofNat_of_zero_le h0
  obtain ⟨V, rfl⟩ := Int.eq_ofNat_of_zero_le v0
  have hV : V < 2 ^ k := by exact_mod_cast v1
  show (((A ^^^ V : Nat) : Int)) / ((2 : Int) ^ k) = (A : Int) / 2 ^ k
  have h : (A ^^^ V) / 2 ^ k = A / 2 ^ k := by
    rw [Nat.xor_div_two_pow, Nat.div_eq_of_lt hV, Nat.xor_zero]
  have h2 : (((A ^^^ V) / 2 ^ k : Nat) : Int) = ((A / 2 ^ k : Nat) : Int) := by rw [h]
  simpa using h2
theorem andB_le (a x : Int) (h0 : 0 ≤ a) (h1 : a < 256) (x0 : 0 ≤ x) (x1 : x < 256) : andB a x ≤ x := by
  unfold andB
  rw [u8_and _ _ h0 h1 x0 x1]
  have := Nat.and_le_right (n := a.toNat) (m := x.toNat)
  omega
theorem mask_first (m : HN) (z : Int) (h0 : 0 ≤ m.s) (h2 : m.s ≤ 2) (w0 : 1 ≤ m.w) (w4 : m.w ≤ 4) (z0 : 0 ≤ z) (z1 : z < 256) (l : List Int) :
    parseS (xorB (hfirst m) (andB z (mbits m.s)) :: l) = parseS (hfirst m :: l) := by
  obtain ⟨f0, f1, f2, f3, f4⟩ := hfirst_bd m h0 h2 w0 w4
  have hb := andB_bd z (mbits m.s)
  by_cases h : m.s = 2
  · have hle : andB z (mbits m.s) ≤ 31 := by
      have := andB_le z (mbits m.s) z0 z1 (by unfold mbits; split <;> omega) (by unfold mbits; split <;> omega)
      unfold mbits at this ⊢; rw [if_pos h] at this ⊢; exact this
    have hx := xor_high (hfirst m) (andB z (mbits m.s)) 5 f0 f1 hb.1 (by simp; omega) (by omega)
    simp at hx
    refine parse_swap _ _ _ ?_ ?_ ?_
    · omega
    · omega
    · intro h9; have := f3 h; omega
  · have hle : andB z (mbits m.s) ≤ 15 := by
      have := andB_le z (mbits m.s) z0 z1 (by unfold mbits; split <;> omega) (by unfold mbits; split <;> omega)
      unfold mbits at this ⊢; rw [if_neg h] at this ⊢; exact this
    have hx := xor_high (hfirst m) (andB z (mbits m.s)) 4 f0 f1 hb.1 (by simp; omega) (by omega)
    simp at hx
    refine parse_swap _ _ _ ?_ ?_ ?_
    · omega
    · omega
    · intro h9; omega
theorem turnB_at (bs ms : List Int) (a k : Nat) (x : Int) (i : Nat) (ha : 1 ≤ a) (hi : i < bs.length) :
    (turnB bs ms a k x)[i]? = some (if i = 0 then xorB (bs.getD 0 0) (andB (ms.getD 0 0) x) else if a ≤ i ∧ i < a + k then xorB (bs.getD i 0) (ms.getD (1 + (i - a)) 0) else bs.getD i 0) := by
  unfold turnB
  rw [turnL_at _ _ _ _ _ (by rw [turnF_len]; exact hi)]
  by_cases h0 : i = 0
  · subst h0
    rw [if_neg (by omega), if_pos rfl, turnF_head _ _ hi]
  · have hg : (turnF bs (andB (ms.getD 0 0) x)).getD i 0 = bs.getD i 0 := by
      unfold turnF
      rw [List.getD_eq_getElem?_getD, List.getElem?_set_ne (by omega), List.getD_eq_getElem?_getD]
    rw [if_neg h0, hg]
theorem turnB_turnB (bs ms : List Int) (a k : Nat) (x : Int) (ha : 1 ≤ a) (hb0 : 0 ≤ bs.getD 0 0 ∧ bs.getD 0 0 < 256) (hb : ∀ i, a ≤ i → i < a + k → 0 ≤ bs.getD i 0 ∧ bs.getD i 0 < 256) (hm : Byt ms) : turnB (turnB bs ms a k x) ms a k x = bs := by
  apply List.ext_getElem?
  intro i
  rcases Nat.lt_or_ge i bs.length with h | h
  · rw [turnB_at _ _ _ _ _ _ ha (by rw [turnB_len]; exact h)]
    have h0 : 0 < bs.length := by omega
    have g0 : (turnB bs ms a k x).getD 0 0 = xorB (bs.getD 0 0) (andB (ms.getD 0 0) x) := turnB_head _ _ _ _ _ ha h0
    have gi : (turnB bs ms a k x).getD i 0 = (if i = 0 then xorB (bs.getD 0 0) (andB (ms.getD 0 0) x) else if a ≤ i ∧ i < a + k then xorB (bs.getD i 0) (ms.getD (1 + (i - a)) 0) else bs.getD i 0) := by
      rw [List.getD_eq_getElem?_getD, turnB_at _ _ _ _ _ _ ha h]; rfl
    have hbi : bs[i]? = some (bs.getD i 0) := by rw [List.getD_eq_getElem?_getD, List.getElem?_eq_getElem h]; rfl
    rw [hbi]
    congr 1
    by_cases hi : i = 0
    · subst hi
      rw [if_pos rfl, g0, xorB_xorB _ _ hb0.1 hb0.2 (andB_bd _ _).1 (andB_bd _ _).2]
    · rw [if_neg hi, gi, if_neg hi]
      by_cases h2 : a ≤ i ∧ i < a + k
      · rw [if_pos h2, if_pos h2, xorB_xorB _ _ (hb i h2.1 h2.2).1 (hb i h2.1 h2.2).2 (hm.getD _).1 (hm.getD _).2]
      · rw [if_neg h2, if_neg h2]
  · rw [List.getElem?_eq_none (by rw [turnB_len, turnB_len]; exact h), List.getElem?_eq_none h]
theorem orL_eq (v x : Int) (h0 : 0 ≤ v) (h1 : v < 16777216) (h2 : 0 ≤ x) (h3 : x < 256) : bits BinOp.or IntKind.u32 (IntKind.u32.wrap (v * 256)) x = v * 256 + x := by
  rw [IntKind.wrap_u32, Int.emod_eq_of_lt (by omega) (by omega), u32_or _ _ (by omega) (by omega) h2 (by omega), nat_join 8 _ _ (by omega) (by omega)]; omega
theorem low_be (w : Nat) (C : Int) (h : w = 1 ∨ w = 2 ∨ w = 3 ∨ w = 4) (c0 : 0 ≤ C) (c1 : C < 256 ^ w) : lowS3 (beS w C) = C := by
  rcases h with rfl | rfl | rfl | rfl
  · simp [lowS3, beS, byteS, List.range, List.range.loop] at c1 ⊢
    rw [show IntKind.u32.wrap 0 = 0 * 256 from rfl, ← show IntKind.u32.wrap (0 * 256) = 0 * 256 from rfl, orL_eq _ _ (by omega) (by omega) (by omega) (by omega)]; omega
  · simp [lowS3, beS, byteS, List.range, List.range.loop] at c1 ⊢
    rw [show IntKind.u32.wrap 0 = IntKind.u32.wrap (0 * 256) from rfl, orL_eq 0 _ (by omega) (by omega) (by omega) (by omega), orL_eq _ _ (by omega) (by omega) (by omega) (by omega)]; omega
  · simp [lowS3, beS, byteS, List.range, List.range.loop] at c1 ⊢
    rw [show IntKind.u32.wrap 0 = IntKind.u32.wrap (0 * 256) from rfl, orL_eq 0 _ (by omega) (by omega) (by omega) (by omega), orL_eq (0 * 256 + C / 65536 % 256) _ (by omega) (by omega) (by omega) (by omega), orL_eq _ _ (by omega) (by omega) (by omega) (by omega)]; omega
  · simp [lowS3, beS, byteS, List.range, List.range.loop] at c1 ⊢
    rw [show IntKind.u32.wrap 0 = IntKind.u32.wrap (0 * 256) from rfl, orL_eq 0 _ (by omega) (by omega) (by omega) (by omega), orL_eq (0 * 256 + C / 16777216 % 256) _ (by omega) (by omega) (by omega) (by omega), orL_eq ((0 * 256 + C / 16777216 % 256) * 256 + C / 65536 % 256) _ (by omega) (by omega) (by omega) (by omega), orL_eq _ _ (by omega) (by omega) (by omega) (by omega)]; omega
theorem hfirst_head (m : HN) (tok : List Int) (n : Int) : ∃ r, hencS m tok n = hfirst m :: r := by
  unfold hencS
  split
  · exact ⟨_, rfl⟩
  · exact ⟨0 :: 0 :: 0 :: 1 :: 8 :: (m.t.l ++ 8 :: (m.f.l ++ ((if m.s = 0 then textB tok else []) ++ twoB (16384 + n)))), by simp only [List.cons_append, List.nil_append, List.append_assoc]⟩
theorem cut_win (n k : Int) (h : 1 ≤ k) (h4 : k ≤ 4) : 0 ≤ cutS n k ∧ cutS n k < 256 ^ k.toNat := by
  unfold cutS
  rcases (show k = 1 ∨ k = 2 ∨ k = 3 ∨ k = 4 by omega) with rfl | rfl | rfl | rfl
  · rw [win_vals.1]; exact ⟨by omega, by show n % 256 < 256 ^ 1; omega⟩
  · rw [win_vals.2.1]; exact ⟨by omega, by show n % 65536 < 256 ^ 2; omega⟩
  · rw [win_vals.2.2.1]; exact ⟨by omega, by show n % 16777216 < 256 ^ 3; omega⟩
  · rw [win_vals.2.2.2]; exact ⟨by omega, by show n % 4294967296 < 256 ^ 4; omega⟩
/-- What was protected, more behind it unless it is of Data. -/
theorem rev_pack (sk mk n : Int) (m : HN) (tok pay more : List Int) (hmay : mayB n m tok pay = true) (htb : Byt m.t.l) (hfb : Byt m.f.l) (hkb : Byt tok) (hpb : Byt pay) (hmore : m.s = 2 → more = []) :
    revS mk (packS sk mk n m tok pay ++ more) = some ⟨m, tok, cutS n m.w, bareS sk n m tok pay, (hencS m tok (m.w + pay.length + 8)).length + m.w.toNat, (packS sk mk n m tok pay).length⟩ ∧
    (hencS m tok (m.w + pay.length + 8)).length + m.w.toNat ≤ (bareS sk n m tok pay).length := by
  have hh := hmay
  unfold mayB at hh
  simp only [Bool.and_eq_true, decide_eq_true_eq] at hh
  obtain ⟨⟨⟨hr, hn⟩, hw⟩, hl⟩ := hh
  obtain ⟨s0, s2, w0, w4, t32, t0, p0, f0⟩ := hright_parts _ _ hr
  obtain ⟨r, hhd⟩ := hfirst_head m tok (m.w + pay.length + 8)
  obtain ⟨f1, f2, f3, f4, f5⟩ := hfirst_bd m s0 s2 w0 w4
  have hpk : packS sk mk n m tok pay = turnB (bareS sk n m tok pay) (maskS mk (samS (bareS sk n m tok pay) (hencS m tok (m.w + pay.length + 8)).length)) (hencS m tok (m.w + pay.length + 8)).length m.w.toNat (mbits m.s) := rfl
  have hbare : bareS sk n m tok pay = hencS m tok (m.w + pay.length + 8) ++ (beS m.w.toNat (cutS n m.w) ++ sealS sk n (hencS m tok (m.w + pay.length + 8) ++ beS m.w.toNat (cutS n m.w)) pay) := by unfold bareS; rw [List.append_assoc]
  have hbl : (bareS sk n m tok pay).length = (hencS m tok (m.w + pay.length + 8)).length + m.w.toNat + (pay.length + 8) := by
    rw [hbare, List.length_append, List.length_append, beS_len, sealS_len]; omega
  obtain ⟨H, hH⟩ : ∃ H, hencS m tok (m.w + pay.length + 8) = H := ⟨_, rfl⟩
  have hpe := fun l hl => parse_enc m tok (m.w + pay.length + 8) l s0 s2 w0 w4 t32 (fun h => by rcases t0 with h' | h'; exact absurd h' h; exact List.eq_nil_of_length_eq_zero h') f0 (by omega) (by omega) hl
  rw [hH] at hpk hbare hbl hhd hl hpe ⊢
  obtain ⟨k, hk⟩ : ∃ k : Nat, m.w = k := ⟨m.w.toNat, by omega⟩
  have hkn : m.w.toNat = k := by omega
  rw [hkn] at hpk hbare hbl ⊢
  obtain ⟨C, hC⟩ : ∃ C, cutS n m.w = C := ⟨_, rfl⟩
  have hCb := cut_win n m.w w0 w4
  rw [hC, hkn] at hCb
  rw [hC] at hbare ⊢
  obtain ⟨X, hX⟩ : ∃ X, sealS sk n (H ++ beS k C) pay = X := ⟨_, rfl⟩
  rw [hX] at hbare
  obtain ⟨B, hB⟩ : ∃ B, bareS sk n m tok pay = B := ⟨_, rfl⟩
  rw [hB] at hpk hbare hbl ⊢
  obtain ⟨ms, hms⟩ : ∃ x, maskS mk (samS B H.length) = x := ⟨_, rfl⟩
  have hmb : Byt ms := by rw [← hms]; exact (b8_byt _).take 5
  rw [hms] at hpk
  obtain ⟨P, hP⟩ : ∃ P, packS sk mk n m tok pay = P := ⟨_, rfl⟩
  rw [hP] at hpk ⊢
  have hHl : 1 ≤ H.length := by rw [hhd]; simp
  have hPl : P.length = H.length + k + (pay.length + 8) := by rw [hpk, turnB_len, hbl]
  obtain ⟨v, hv⟩ : ∃ v, andB (ms.getD 0 0) (mbits m.s) = v := ⟨_, rfl⟩
  have hvb : 0 ≤ v ∧ v < 256 := by rw [← hv]; exact andB_bd _ _
  have hB0 : B.getD 0 0 = hfirst m := by rw [hbare, hhd]; rfl
  have hPt : P.take H.length = xorB (hfirst m) v :: r := by
    rw [hpk, ← turnB_take _ _ _ _ _ _ hHl, hbare, List.take_append_of_le_length (Nat.le_refl _), List.take_length]
    unfold turnB
    rw [hv, hhd]
    have hid : ∀ l : List Int, turnL l ms l.length k = l := fun l => by
      apply List.ext_getElem?
      intro i
      rcases Nat.lt_or_ge i l.length with h | h
      · rw [turnL_at _ _ _ _ _ h, if_neg (by omega), List.getD_eq_getElem?_getD, List.getElem?_eq_getElem h]; rfl
      · rw [List.getElem?_eq_none (by rw [turnL_len]; exact h), List.getElem?_eq_none h]
    have := hid (turnF (hfirst m :: r) v)
    rw [turnF_len] at this
    rw [this]; rfl
  have hPs : P ++ more = xorB (hfirst m) v :: (r ++ (P.drop H.length ++ more)) := by
    rw [← List.cons_append, ← hPt, ← List.append_assoc, List.take_append_drop]
  have hparse : parseS (P ++ more) = some ((⟨m.s, m.t, m.f, 1, false⟩ : HN), tok, (H.length : Int), (P.length : Int)) := by
    rw [hPs, ← hv, mask_first m (ms.getD 0 0) s0 s2 w0 w4 (hmb.getD 0).1 (hmb.getD 0).2, ← List.cons_append, ← hhd, hpe _ (by rw [List.length_append, List.length_drop]; omega)]
    congr 4
    by_cases h2 : m.s = 2
    · rw [if_pos h2, hmore h2, List.append_nil, List.length_append, List.length_drop]; omega
    · rw [if_neg h2]; omega
  have hsam : samS (P ++ more) H.length = samS B H.length := by
    unfold samS
    rw [List.drop_append_of_le_length (by omega), List.take_append_of_le_length (by rw [List.length_drop]; omega), hpk, turnB_drop _ _ _ _ _ _ (by omega) (by omega)]
  have hPh : (P ++ more).getD 0 0 = xorB (hfirst m) v := by rw [hPs]; rfl
  have hfu : firstU mk (P ++ more) ⟨m.s, m.t, m.f, 1, false⟩ H.length = hfirst m := by
    unfold firstU
    rw [hsam, hms, hPh]
    show xorB (xorB (hfirst m) v) (andB (ms.getD 0 0) (mbits m.s)) = _
    rw [hv, xorB_xorB _ _ f1 f2 hvb.1 hvb.2]
  have hw' : (hfirst m % 4 + 1).toNat = k ∧ hfirst m % 4 + 1 = m.w := by
    unfold hfirst
    by_cases h2 : m.s = 2
    · rw [if_pos h2]; split <;> omega
    · rw [if_neg h2]; omega
  have hph : (decide (m.s = 2) && decide (hfirst m / 4 % 2 = 1)) = m.ph := by
    unfold hfirst
    by_cases h2 : m.s = 2
    · rw [if_pos h2, decide_eq_true h2]
      cases hp : m.ph
      · rw [if_neg (by decide)]; exact decide_eq_false (by omega)
      · rw [if_pos rfl]; exact decide_eq_true (by omega)
    · rw [decide_eq_false h2]
      rcases p0 with h | h
      · exact absurd h h2
      · rw [h]; rfl
  have hnum : ∀ i, H.length ≤ i → i < H.length + k → 0 ≤ B.getD i 0 ∧ B.getD i 0 < 256 := fun i h1 h2 => by
    rw [hbare, List.getD_eq_getElem?_getD, List.getElem?_append_right h1, List.getElem?_append_left (by rw [beS_len]; omega), ← List.getD_eq_getElem?_getD]
    exact (beS_byt k C).getD _
  have hinv : turnB P ms H.length k (mbits m.s) = B := by rw [hpk]; exact turnB_turnB B ms _ _ _ hHl (by rw [hB0]; exact ⟨f1, f2⟩) hnum hmb
  have hlow : ((B.drop H.length).take k) = beS k C := by
    rw [hbare, List.drop_append_of_le_length (Nat.le_refl _), List.drop_length, List.nil_append, List.take_append_of_le_length (by rw [beS_len]; omega), List.take_of_length_le (by rw [beS_len]; omega)]
  refine ⟨?_, by rw [hbl]; omega⟩
  unfold revS
  rw [hparse]
  simp only [Int.toNat_natCast]
  rw [hsam, hms, hfu, hw'.1, List.take_append_of_le_length (Nat.le_refl _), List.take_length, hinv, hlow, low_be k C (by omega) hCb.1 hCb.2]
  congr 2
  unfold revHN
  simp only
  rw [hw'.2, hph]
end
section
set_option linter.unusedVariables false
set_option linter.unusedSimpArgs false
open Go.RowKit Go.ChangeShapes Go.WideShapes Go.Deep
theorem first_kept (m : HN) (h0 : 0 ≤ m.s) (h2 : m.s ≤ 2) (w0 : 1 ≤ m.w) (w4 : m.w ≤ 4) : andB (hfirst m) (if m.s = 2 then 24 else 12) = 0 := by
  unfold hfirst
  have hw : m.w = 1 ∨ m.w = 2 ∨ m.w = 3 ∨ m.w = 4 := by omega
  by_cases h : m.s = 2
  · rw [if_pos h, if_pos h]
    split <;> rcases hw with h | h | h | h <;> rw [h] <;> decide
  · rw [if_neg h, if_neg h]
    have hs : m.s = 0 ∨ m.s = 1 := by omega
    rcases hs with h' | h' <;> rcases hw with h | h | h | h <;> rw [h', h] <;> decide
theorem unp_pack (sk mk n : Int) (m : HN) (tok pay more : List Int) (l : Int) (has : Bool) (hmay : mayB n m tok pay = true) (htb : Byt m.t.l) (hfb : Byt m.f.l) (hkb : Byt tok) (hpb : Byt pay) (hmore : m.s = 2 → more = [])
    (hw : wholeS l has (cutS n m.w) m.w = n) : unpS sk mk l has (packS sk mk n m tok pay ++ more) = (m, tok, n, pay, 0) := by
  obtain ⟨hrev, hle⟩ := rev_pack sk mk n m tok pay more hmay htb hfb hkb hpb hmore
  have hh := hmay
  unfold mayB at hh
  simp only [Bool.and_eq_true, decide_eq_true_eq] at hh
  obtain ⟨⟨⟨hr, hn⟩, hw4⟩, hl⟩ := hh
  obtain ⟨s0, s2, w0, w4, t32, t0, p0, f0⟩ := hright_parts _ _ hr
  have hbare : bareS sk n m tok pay = (hencS m tok (m.w + pay.length + 8) ++ beS m.w.toNat (cutS n m.w)) ++ sealS sk n (hencS m tok (m.w + pay.length + 8) ++ beS m.w.toNat (cutS n m.w)) pay := rfl
  have hDl : (hencS m tok (m.w + pay.length + 8) ++ beS m.w.toNat (cutS n m.w)).length = (hencS m tok (m.w + pay.length + 8)).length + m.w.toNat := by rw [List.length_append, beS_len]
  unfold unpS
  rw [hrev]
  simp only
  rw [hw, hbare, ← hDl, List.take_append_of_le_length (Nat.le_refl _), List.take_length, List.drop_append_of_le_length (Nat.le_refl _), List.drop_length, List.nil_append]
  obtain ⟨o1, o2⟩ := open_seal sk n (hencS m tok (m.w + pay.length + 8) ++ beS m.w.toNat (cutS n m.w)) pay hpb
  obtain ⟨r, hhd⟩ := hfirst_head m tok (m.w + pay.length + 8)
  rw [o1, o2, if_neg (by decide), if_pos]
  have : (hencS m tok (m.w + pay.length + 8) ++ beS m.w.toNat (cutS n m.w) ++ sealS sk n (hencS m tok (m.w + pay.length + 8) ++ beS m.w.toNat (cutS n m.w)) pay).getD 0 0 = hfirst m := by rw [hhd]; rfl
  rw [this]
  exact first_kept m s0 s2 w0 w4
theorem henc_100 (m : HN) (tok : List Int) (n : Int) (h : tok.length ≤ 32) : (hencS m tok n).length ≤ 100 := by
  unfold hencS
  split
  · have e : (m.t.l).length = 8 := rfl
    simp only [List.length_cons]; omega
  · have e1 : (m.t.l).length = 8 := rfl
    have e2 : (m.f.l).length = 8 := rfl
    have e3 := textB_le tok
    have e4 : (twoB (16384 + n)).length = 2 := rfl
    have e5 : (if m.s = 0 then textB tok else []).length ≤ 40 := by split; omega; simp
    simp only [List.length_append, List.length_cons, List.length_nil]; omega
def knH : HN := ⟨2, .zero, .zero, 2, false⟩
def knG : HN := ⟨0, .zero, .zero, 1, false⟩
theorem knH_wf : knH.wf := ⟨by decide, by decide, by decide, by decide, HN.zero_wf.tb, HN.zero_wf.fb⟩
theorem knG_wf : knG.wf := ⟨by decide, by decide, by decide, by decide, HN.zero_wf.tb, HN.zero_wf.fb⟩
theorem kn_may : mayB 7 knH [] [97, 98, 99] = true := by decide
theorem kn_not : mayB 7 knG [] [97] = false := by decide
theorem kn_whole : wholeS 6 true (cutS 7 2) 2 = 7 := by decide
set_option maxRecDepth 100000 in
set_option maxHeartbeats 4000000 in
theorem known9_any (w : World) : Calls Try.prog 10 #[] w (FrPost (.bool true) w) := by
  have HP := Lib.hid (fun W A c (h : Rd W W.heap.size A 3 [97, 98, 99]) (h1 : 3 ≤ c) (h2 : c ≤ maxLen) => (show Calls Try.prog 15 #[.agg #[.int .u64 5, .int .u64 6], .agg #[.int .i64 2, .int .u8 0, .int .u8 0, .int .u8 0, .int .u8 0, .int .u8 0, .int .u8 0, .int .u8 0, .int .u8 0, .int .u8 0, .int .u8 0, .int .u8 0, .int .u8 0, .int .u8 0, .int .u8 0, .int .u8 0, .int .u8 0, .slice none 0 0, .int .i64 2, .bool false], .int .u64 7, .slice A 3 c] W (fun e w' => ∃ v, e = .returned (.tuple #[v, .int .i64 0]) ∧ Own w' W.heap.size 5 v (packS 5 6 7 knH [] [97, 98, 99]) ∧ Below W.heap.size W w') from
    (protect_any (fun _ => True) 5 6 7 knH Sl.nil [] A 3 c [97, 98, 99] W ⟨knH_wf, inD_nil _ _⟩ h h1 h2 (by omega) (by omega) (by omega) (by omega) (by omega) (by omega) (by omega) (by decide) (by decide)).mono (fun e w' hh => by unfold ProPost at hh; rw [if_pos kn_may, if_pos kn_may] at hh; exact hh)))
  have HQ := Lib.hid (fun W A c (h : Rd W W.heap.size A 1 [97]) (h1 : 1 ≤ c) (h2 : c ≤ maxLen) => (show Calls Try.prog 15 #[.agg #[.int .u64 5, .int .u64 6], .agg #[.int .i64 0, .int .u8 0, .int .u8 0, .int .u8 0, .int .u8 0, .int .u8 0, .int .u8 0, .int .u8 0, .int .u8 0, .int .u8 0, .int .u8 0, .int .u8 0, .int .u8 0, .int .u8 0, .int .u8 0, .int .u8 0, .int .u8 0, .slice none 0 0, .int .i64 1, .bool false], .int .u64 7, .slice A 1 c] W (fun e w' => ∃ v, e = .returned (.tuple #[v, .int .i64 1]) ∧ Below W.heap.size W w') from
    (protect_any (fun _ => True) 5 6 7 knG Sl.nil [] A 1 c [97] W ⟨knG_wf, inD_nil _ _⟩ h h1 h2 (by omega) (by omega) (by omega) (by omega) (by omega) (by omega) (by omega) (by decide) (by decide)).mono (fun e w' hh => by unfold ProPost at hh; rw [kn_not] at hh; obtain ⟨v, h1, h2, h3⟩ := hh; exact ⟨v, h1, h3⟩)))
  have hun := unp_pack 5 6 7 knH [] [97, 98, 99] [] 6 true kn_may HN.zero_wf.tb HN.zero_wf.fb Byt.nil (by intro x hx; simp at hx; omega) (fun _ => rfl) kn_whole
  rw [List.append_nil] at hun
  obtain ⟨X, hX⟩ : ∃ X, packS 5 6 7 knH [] [97, 98, 99] = X := ⟨_, rfl⟩
  have hXl : X.length ≤ 1000000 := by
    rw [← hX]
    have hh := kn_may
    show (turnB _ _ _ _ _).length ≤ _
    rw [turnB_len]
    unfold bareS
    rw [List.length_append, List.length_append, beS_len, sealS_len]
    have hq := henc_100 knH [] (knH.w + ([97, 98, 99] : List Int).length + 8) (by simp)
    have h3 : ([97, 98, 99] : List Int).length = 3 := rfl
    rw [h3] at hq ⊢
    have h9 : knH.w.toNat = 2 := rfl
    rw [h9]
    omega
  rw [hX] at HP hun
  have HR := Lib.hid (fun W A c (h : Rd W W.heap.size A X.length X) (h1 : X.length ≤ c) (h2 : c ≤ maxLen) (h3 : A = none → c = 0) => (show Calls Try.prog 16 #[.agg #[.int .u64 5, .int .u64 6], .slice A X.length c, .int .u64 6, .bool true] W (fun e w' => ∃ d v, e = .returned (.tuple #[hdV knH d, .int .u64 7, v, .int .i64 0]) ∧ Own w' W.heap.size 5 v [97, 98, 99] ∧ Below W.heap.size W w') from
    (unprotect_any 5 6 6 true A X.length c X W h hXl h1 h2 h3 (by omega) (by omega) (by omega) (by omega) (by omega) (by omega)).mono (fun e w' hh => by unfold UnpPost at hh; rw [hun] at hh; obtain ⟨d, v, g1, g2, g3, g4, g5⟩ := hh; exact ⟨d, v, g1, g4, g5⟩)))
  obtain ⟨XL, hXL⟩ : ∃ l, X.length = l := ⟨_, rfl⟩
  rw [hXL] at HR
  have HXL := Lib.hid hXL
  clear hun hX hXl hXL
  have kc := fun (w : World) (C : Array Value) (n c : Nat) => Lib.run_convert_bytes_const (P := Try.prog) w 28 5 C n c Try.underlying28 Try.underlying5
  have hKK : At (w.alloc (.cells #[.int .u64 5, .int .u64 6] 40)) w.heap.size 40 [.int .u64 5, .int .u64 6] := At.new w 40 [.int .u64 5, .int .u64 6]
  have hb0 : Below w.heap.size w (w.alloc (.cells #[.int .u64 5, .int .u64 6] 40)) := (Below.refl _ _).alloc (Nat.le_refl _) _
  obtain ⟨w1, hw1⟩ : ∃ x, w.alloc (.cells #[.int .u64 5, .int .u64 6] 40) = x := ⟨_, rfl⟩
  rw [hw1] at hKK hb0
  have hbm : Below w1.heap.size w1 (w1.alloc (.cells #[.int .u8 97, .int .u8 98, .int .u8 99] 5 (3, 4))) := (Below.refl _ _).alloc (Nat.le_refl _) _
  have hrm : Rd (w1.alloc (.cells #[.int .u8 97, .int .u8 98, .int .u8 99] 5 (3, 4))) (w1.heap.size + 1) (some ⟨w1.heap.size, 0, none⟩) 3 [97, 98, 99] := Rd.litm w1 5 [97, 98, 99] (by intro x hx; simp at hx; omega) #[.int .u8 97, .int .u8 98, .int .u8 99] (3, 4) rfl
  have hsm : (w1.alloc (.cells #[.int .u8 97, .int .u8 98, .int .u8 99] 5 (3, 4))).heap.size = w1.heap.size + 1 := by simp
  rw [← hsm] at hrm
  obtain ⟨w2, hw2⟩ : ∃ x, w1.alloc (.cells #[.int .u8 97, .int .u8 98, .int .u8 99] 5 (3, 4)) = x := ⟨_, rfl⟩
  rw [hw2] at hrm hbm
  clear hsm
  go_enter Try.func10, Try.ntmps10
  go_wp2_with (first | ((with_reducible refine at_ldk ?_); refine ld_kt w.heap.size [.int .u64 5, .int .u64 6] (by rfl) hKK rfl ?_) | fail)
  refine (HP.out w2 _ 3 hrm (Nat.le_refl _) (by unfold maxLen; omega)).mono ?_
  rintro e w3 ⟨v3, rfl, ho3, hb3⟩
  obtain ⟨A3, c3, hv3, x1, x2, x3⟩ := ho3.open_n XL HXL.out
  have hA3 : A3 = none → c3 = 0 := by
    intro hh; subst hh
    rcases ho3.1.2 with ⟨hv, _⟩ | ⟨g, cap, cur, hv, _⟩
    · rw [hv3] at hv; injection hv with _ _ hv
    · rw [hv3] at hv; injection hv with hv; cases hv
  subst hv3
  have hb4 := (hb0.trans (hbm.mono hb0.size)).trans (hb3.mono (by have := hb0.size; have := hbm.size; omega))
  have hKK3 := (hKK.below hbm hKK.lt).below hb3 (by have := hKK.lt; have := hbm.size; omega)
  clear hw1 hw2 hrm hbm hb3 hb0 hKK
  go_wp2_with (first | ((with_reducible refine at_ldk ?_); refine ld_kt w.heap.size [.int .u64 5, .int .u64 6] (by rfl) hKK3 rfl ?_) | fail)
  refine (HR.out w3 _ c3 x3 x1 x2 hA3).mono ?_
  rintro e w5 ⟨d5, v5, rfl, ho5, hb5⟩
  have hKK5 := hKK3.below hb5 hKK3.lt
  have hb6 := hb4.trans (hb5.mono hb4.size)
  obtain ⟨A5, c5, hv5, _, _, x5⟩ := ho5.open_n 3 rfl
  subst hv5
  have hN5 : At (w5.alloc (.cells #[.int .i64 0, .int .u8 0, .int .u8 0, .int .u8 0, .int .u8 0, .int .u8 0, .int .u8 0, .int .u8 0, .int .u8 0, .int .u8 0, .int .u8 0, .int .u8 0, .int .u8 0, .int .u8 0, .int .u8 0, .int .u8 0, .int .u8 0, .slice none 0 0, .int .i64 0, .bool false] 30)) w5.heap.size 30 (hdL .zero .nil) := At.new w5 30 (hdL .zero .nil)
  have hbz : Below w5.heap.size w5 (w5.alloc (.cells #[.int .i64 0, .int .u8 0, .int .u8 0, .int .u8 0, .int .u8 0, .int .u8 0, .int .u8 0, .int .u8 0, .int .u8 0, .int .u8 0, .int .u8 0, .int .u8 0, .int .u8 0, .int .u8 0, .int .u8 0, .int .u8 0, .int .u8 0, .slice none 0 0, .int .i64 0, .bool false] 30)) := (Below.refl _ _).alloc (Nat.le_refl _) _
  have hvv : hdV knH d5 = .agg (hdL knH d5).toArray := rfl
  rw [hvv]
  have hGo : (hdL knH d5).all (·.oneCell') = true := rfl
  obtain ⟨G, hG⟩ : ∃ G, hdL knH d5 = G := ⟨_, rfl⟩
  have hGl : G.length = 20 := by rw [← hG]; rfl
  rw [hG] at hGo ⊢
  have HGL := Lib.hid hGl
  clear hvv hG hGl hb5 hKK3 ho5 ho3 hb4 x3
  go_wp2_with (first | ((with_reducible refine at_sth ?_); refine st_hd w5.heap.size (hdL .zero .nil) G (by rfl) (by rfl) hN5 rfl HGL.out hGo ?_; intro w6 hA6 hk6; have hbs := hk6.below hbz hbz.size (by intro j hj; subst hj; exact Nat.le_refl _); have hKK6 := hKK5.below hbs hKK5.lt; have hr6 := (x5.below hbs).more hbs.size; have hb7 := hb6.trans (hbs.mono hb6.size); clear hbs hbz hk6 hN5 hA6 hKK5 x5 hb6) | ((with_reducible refine at_ldk ?_); refine ld_kt w.heap.size [.int .u64 5, .int .u64 6] (by rfl) hKK6 rfl ?_) | fail)
  have hbm : Below w6.heap.size w6 (w6.alloc (.cells #[.int .u8 97] 5 (1, 2))) := (Below.refl _ _).alloc (Nat.le_refl _) _
  have hrm : Rd (w6.alloc (.cells #[.int .u8 97] 5 (1, 2))) (w6.heap.size + 1) (some ⟨w6.heap.size, 0, none⟩) 1 [97] := Rd.litm w6 5 [97] (by intro x hx; simp at hx; omega) #[.int .u8 97] (1, 2) rfl
  have hsm : (w6.alloc (.cells #[.int .u8 97] 5 (1, 2))).heap.size = w6.heap.size + 1 := by simp
  rw [← hsm] at hrm
  refine (HQ.out _ _ 1 hrm (Nat.le_refl _) (by unfold maxLen; omega)).mono ?_
  rintro e w8 ⟨v8, rfl, hb8⟩
  have hr8 := (((hr6.below hbm).more hbm.size).below hb8).more hb8.size
  have hb9 := (hb7.trans (hbm.mono hb7.size)).trans (hb8.mono (by have := hb7.size; have := hbm.size; omega))
  have t8 := run_text (P := Try.prog) (c := c5) hr8 28 5 9 Try.underlying28 Try.underlying5 Try.underlying9
  have hT : strOfNums [97, 98, 99] = { data := #[97, 98, 99] } := rfl
  rw [hT] at t8
  clear hr8 hb8 hbm hrm hr6 hsm hT kc
  go_wp2_with fail
  go_ret
  exact ⟨rfl, hb9⟩
end
end Go.Proofs.Ytehdilgnlhhjdaa
