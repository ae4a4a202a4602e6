/-
  A head's bytes, and what bytes say of a head: what was written is read, beginnings are none.
-/
import Derived.Test.YtbioajgmceodhaaHd
import Derived.Test.YtbioajgmceodhaaTake
namespace Go.Proofs.Ytbioajgmceodhaa
set_option linter.unusedVariables false
open Go.RowKit
/-- A head's first byte. -/
def hfirst (m : HN) : Int := if m.s = 2 then (if m.ph then 67 + m.w else 63 + m.w) else 191 + 16 * m.s + m.w
/-- A head's bytes, n more behind it. -/
def hencS (m : HN) (tok : List Int) (n : Int) : List Int :=
  if m.s = 2 then hfirst m :: m.t.l
  else [hfirst m, 0, 0, 0, 1, 8] ++ m.t.l ++ [8] ++ m.f.l ++ (if m.s = 0 then textB tok else []) ++ twoB (16384 + n)
/-- What is behind a name that its length is written ahead of. -/
def lgN (s : St) : St := takeN (takeN s 1) 8
def lgR (s : St) : List Int := takeR (takeN s 1) 8
/-- The token, and what is behind it. -/
def tokR (s : St) (sp : Int) : List Int := if sp = 0 then textR s else []
def tokN (s : St) (sp : Int) : St := if sp = 0 then textN s else s
abbrev HO := Option (HN × List Int × Int × Int)
/-- What is behind the version says. -/
def htailS (s2 : St) (sp : Int) (len : Int) (ok : Bool) : HO :=
  if ok = true ∧ byteR s2 = 8 ∧ byteR (lgN s2) = 8 ∧ (tokR (lgN (lgN s2)) sp).length ≤ 32 ∧ (varN (tokN (lgN (lgN s2)) sp)).2 = false ∧ 12 ≤ varR (tokN (lgN (lgN s2)) sp) ∧ varR (tokN (lgN (lgN s2)) sp) ≤ (varN (tokN (lgN (lgN s2)) sp)).1.length
  then some (⟨sp, N8.of (lgR s2), N8.of (lgR (lgN s2)), 1, false⟩, tokR (lgN (lgN s2)) sp, len - (varN (tokN (lgN (lgN s2)) sp)).1.length, len - (varN (tokN (lgN (lgN s2)) sp)).1.length + varR (tokN (lgN (lgN s2)) sp)) else none
def parseS (bs : List Int) : HO :=
  let s1 := takeN (bs, false) 1
  let x := byteR (bs, false)
  if x / 64 % 2 = 0 then none
  else if x / 128 = 0 then
    (if (takeN s1 8).2 = false ∧ 12 ≤ (takeN s1 8).1.length then some (⟨2, N8.of (takeR s1 8), .zero, 1, false⟩, [], 9, bs.length) else none)
  else htailS (takeN s1 4) (x / 16 % 4) bs.length (decide (x / 16 % 4 ≤ 1 ∧ takeR s1 4 = [0, 0, 0, 1]))
theorem takeN_takeN (s : St) (a b : Int) (ha : 0 ≤ a) (hb : 0 ≤ b) (h : s.2 = true → s.1 = []) : takeN (takeN s a) b = takeN s (a + b) ∨ (a = 0 ∧ b = 0) ∨ b = 0 := by
  obtain ⟨bs, bad⟩ := s
  by_cases hb0 : b = 0
  · exact .inr (.inr hb0)
  left
  obtain ⟨n, rfl⟩ := Int.eq_ofNat_of_zero_le ha
  obtain ⟨k, rfl⟩ := Int.eq_ofNat_of_zero_le hb
  unfold takeN
  by_cases h1 : n ≤ bs.length
  · rw [if_pos (show (0 : Int) ≤ (n : Int) ∧ (n : Int) ≤ (bs.length : Int) by omega)]
    by_cases h2 : n + k ≤ bs.length
    · rw [if_pos (by simp; omega), if_pos (by simp; omega)]
      simp [show ((n : Int) + (k : Int)).toNat = n + k by omega]
    · rw [if_neg (by simp; omega), if_neg (by simp; omega)]
  · rw [if_neg (show ¬ ((0 : Int) ≤ (n : Int) ∧ (n : Int) ≤ (bs.length : Int)) by omega), if_neg (by simp; omega), if_neg (by simp; omega)]
theorem take_cons (x : Int) (l : List Int) : byteR (x :: l, false) = x ∧ takeN (x :: l, false) 1 = (l, false) := by
  have h := take_app [x] l 1 rfl
  unfold byteR
  rw [show x :: l = [x] ++ l from rfl, h.1, h.2]
  exact ⟨rfl, rfl⟩
theorem lg_app (m : N8) (l : List Int) : lgR (8 :: (m.l ++ l), false) = m.l ∧ lgN (8 :: (m.l ++ l), false) = (l, false) := by
  unfold lgR lgN
  rw [(take_cons _ _).2]
  exact take_app m.l l 8 rfl
theorem var_two14 (n : Int) (h0 : 0 ≤ n) (h1 : n ≤ 16383) (l : List Int) : varR (twoB (16384 + n) ++ l, false) = n ∧ varN (twoB (16384 + n) ++ l, false) = (l, false) := by
  have e : getS (twoB (16384 + n) ++ l) = (n, 2) := by
    unfold getS twoB
    simp only [List.cons_append, List.nil_append, List.getD_cons_zero]
    rw [if_neg (by simp)]
    have hs : szS ((16384 + n) / 256) = 2 := by
      have h1 : 64 ≤ (16384 + n) / 256 ∧ (16384 + n) / 256 < 128 := by omega
      unfold szS; rw [if_neg (by omega), if_pos (by omega)]
    rw [hs]
    rw [if_neg (by simp)]
    simp only [List.take_succ_cons, List.take_zero, List.drop_succ_cons, List.drop_zero, foldS]
    refine Prod.ext ?_ rfl
    simp only [List.foldl]
    omega
  unfold varR varN
  simp only [e]
  rw [if_neg (by decide), if_neg (by decide)]
  exact ⟨rfl, (take_app (twoB (16384 + n)) l 2 rfl).2⟩
theorem hfirst_bd (m : HN) (h0 : 0 ≤ m.s) (h2 : m.s ≤ 2) (w0 : 1 ≤ m.w) (w4 : m.w ≤ 4) : 0 ≤ hfirst m ∧ hfirst m < 256 ∧ hfirst m / 64 % 2 = 1 ∧ (m.s = 2 → hfirst m / 128 = 0) ∧ (m.s ≠ 2 → hfirst m / 128 = 1 ∧ hfirst m / 16 % 4 = m.s) := by
  unfold hfirst
  by_cases h : m.s = 2
  · rw [if_pos h]
    refine ⟨?_, ?_, ?_, ?_, fun h' => absurd h h'⟩ <;> (split <;> omega)
  · rw [if_neg h]
    refine ⟨by omega, by omega, by omega, fun h' => absurd h' h, fun _ => ⟨by omega, by omega⟩⟩
/-- What was written is read. -/
theorem parse_enc (m : HN) (tok : List Int) (n : Int) (l : List Int) (h0 : 0 ≤ m.s) (h2 : m.s ≤ 2) (w0 : 1 ≤ m.w) (w4 : m.w ≤ 4) (ht : tok.length ≤ 32) (ht0 : m.s ≠ 0 → tok = []) (hf : m.s = 2 → m.f = .zero)
    (hn : 12 ≤ n) (hn1 : n ≤ 16383) (hl : n ≤ l.length) :
    parseS (hencS m tok n ++ l) = some ((⟨m.s, m.t, m.f, 1, false⟩ : HN), tok, ((hencS m tok n).length : Int), if m.s = 2 then ((hencS m tok n ++ l).length : Int) else (hencS m tok n).length + n) := by
  obtain ⟨b0, b1, b2, b3, b4⟩ := hfirst_bd m h0 h2 w0 w4
  by_cases h : m.s = 2
  · have e : hencS m tok n = hfirst m :: m.t.l := by unfold hencS; rw [if_pos h]
    rw [e, if_pos h]
    unfold parseS
    simp only [List.cons_append, (take_cons _ _).1, (take_cons _ _).2]
    have t8 := take_app m.t.l l 8 rfl
    have c : ((l, false) : St).2 = false ∧ 12 ≤ ((l, false) : St).1.length := ⟨rfl, by simp only; omega⟩
    rw [if_neg (by omega), if_pos (b3 h), t8.1, t8.2, if_pos c, h, hf h, ht0 (by omega)]
    rfl
  · have e : hencS m tok n = hfirst m :: ([0, 0, 0, 1] ++ (8 :: (m.t.l ++ (8 :: (m.f.l ++ ((if m.s = 0 then textB tok else []) ++ twoB (16384 + n))))))) := by
      unfold hencS; rw [if_neg h]; simp
    rw [if_neg h]
    have e2 : hencS m tok n ++ l = hfirst m :: ([0, 0, 0, 1] ++ (8 :: (m.t.l ++ (8 :: (m.f.l ++ ((if m.s = 0 then textB tok else []) ++ (twoB (16384 + n) ++ l))))))) := by
      rw [e]; simp
    have hlen : ((hencS m tok n ++ l).length : Int) - l.length = (hencS m tok n).length := by rw [List.length_append]; omega
    unfold parseS
    rw [e2]
    simp only [(take_cons _ _).1, (take_cons _ _).2]
    obtain ⟨b5, b6⟩ := b4 h
    rw [if_neg (by omega), if_neg (by omega), b6]
    have t4 := take_app [0, 0, 0, 1] (8 :: (m.t.l ++ (8 :: (m.f.l ++ ((if m.s = 0 then textB tok else []) ++ (twoB (16384 + n) ++ l)))))) 4 rfl
    rw [t4.1, t4.2, ← e2]
    unfold htailS
    simp only [(lg_app _ _).1, (lg_app _ _).2, (take_cons _ _).1]
    have tk : tokR ((if m.s = 0 then textB tok else []) ++ (twoB (16384 + n) ++ l), false) m.s = tok ∧ tokN ((if m.s = 0 then textB tok else []) ++ (twoB (16384 + n) ++ l), false) m.s = (twoB (16384 + n) ++ l, false) := by
      unfold tokR tokN
      by_cases hs : m.s = 0
      · simp only [if_pos hs]
        exact text_app tok _ (by omega)
      · simp only [if_neg hs]
        exact ⟨(ht0 hs).symm, rfl⟩
    rw [tk.1, tk.2, (var_two14 n (by omega) hn1 l).1, (var_two14 n (by omega) hn1 l).2]
    have hd : decide (m.s ≤ 1 ∧ True) = true := by simp; omega
    rw [if_pos ⟨hd, trivial, trivial, ht, rfl, hn, hl⟩]
    simp only [N8.of_l, hlen]
/-- What a beginning of a long head's packet says, the whole says. -/
theorem parse_more (bs more : List Int) (h : HN) (tok : List Int) (at_ en : Int) (hp : parseS bs = some (h, tok, at_, en)) (hs : h.s ≠ 2) : parseS (bs ++ more) = some (h, tok, at_, en) ∧ en ≤ bs.length := by
  unfold parseS at hp ⊢
  simp only at hp ⊢
  by_cases hx : byteR (bs, false) / 64 % 2 = 0
  · rw [if_pos hx] at hp; cases hp
  rw [if_neg hx] at hp
  by_cases hy : byteR (bs, false) / 128 = 0
  · rw [if_pos hy] at hp
    split at hp
    · injection hp with hp
      injection hp with hp _
      exact absurd (by rw [← hp]) hs
    · cases hp
  rw [if_neg hy] at hp
  unfold htailS at hp
  split at hp
  case isFalse => cases hp
  case isTrue hc =>
    obtain ⟨c1, c2, c3, c4, c5, c6, c7⟩ := hc
    injection hp with hp
    injection hp with e1 hp
    injection hp with e2 hp
    injection hp with e3 e4
    obtain ⟨s2, hs2⟩ : ∃ s2, takeN (takeN (bs, false) 1) 4 = s2 := ⟨_, rfl⟩
    rw [hs2] at c2 c3 c4 c5 c6 c7 e1 e2 e3 e4
    obtain ⟨sp, hsp⟩ : ∃ sp, byteR (bs, false) / 16 % 4 = sp := ⟨_, rfl⟩
    rw [hsp] at c1 c4 c5 c6 c7 e1 e2 e3 e4
    have v := var_false _ c5
    have b4 : (lgN (lgN s2)).2 = false := by
      unfold tokN at v
      by_cases h0 : sp = 0
      · rw [if_pos h0] at v
        unfold textN at v
        exact var_false _ (take_false _ _ v)
      · rw [if_neg h0] at v; exact v
    have b4' : (takeN (lgN s2) 1).2 = false := take_false _ _ b4
    have b3 : (lgN s2).2 = false := take_false _ _ b4'
    have b3' : (takeN s2 1).2 = false := take_false _ _ b3
    have b2 : s2.2 = false := take_false _ _ b3'
    have b1 : (takeN (bs, false) 1).2 = false := take_false _ _ (by rw [hs2]; exact b2)
    have x1 := take_ext (bs, false) 1 more b1
    have x2 := take_ext (takeN (bs, false) 1) 4 more (by rw [hs2]; exact b2)
    have x3 := take_ext s2 1 more b3'
    have x3' := take_ext (takeN s2 1) 8 more b3
    have x4 := take_ext (lgN s2) 1 more b4'
    have x4' := take_ext (takeN (lgN s2) 1) 8 more b4
    have y0 : byteR (bs ++ more, false) = byteR (bs, false) := by unfold byteR; rw [show (bs ++ more, false) = (((bs, false) : St).1 ++ more, false) from rfl, x1.1]
    have y1 : takeN (bs ++ more, false) 1 = ((takeN (bs, false) 1).1 ++ more, false) := x1.2
    rw [hs2] at x2
    have y2 : byteR (s2.1 ++ more, false) = byteR s2 := by unfold byteR; rw [x3.1]
    have y3 : lgR (s2.1 ++ more, false) = lgR s2 ∧ lgN (s2.1 ++ more, false) = ((lgN s2).1 ++ more, false) := by
      unfold lgR lgN; rw [x3.2]; exact x3'
    have y4 : byteR ((lgN s2).1 ++ more, false) = byteR (lgN s2) := by unfold byteR; rw [x4.1]
    have y5 : lgR ((lgN s2).1 ++ more, false) = lgR (lgN s2) ∧ lgN ((lgN s2).1 ++ more, false) = ((lgN (lgN s2)).1 ++ more, false) := by
      unfold lgR; rw [show lgN ((lgN s2).1 ++ more, false) = takeN (takeN ((lgN s2).1 ++ more, false) 1) 8 from rfl, x4.2]; exact x4'
    rw [y0, if_neg hx, if_neg hy, y1, x2.1, x2.2, hsp]
    unfold htailS
    simp only [y2, y3.1, y3.2, y4, y5.1, y5.2]
    obtain ⟨s4, hs4⟩ : ∃ s4, lgN (lgN s2) = s4 := ⟨_, rfl⟩
    rw [hs4] at c4 c5 c6 c7 e2 e3 e4 v b4 ⊢
    have z : tokR (s4.1 ++ more, false) sp = tokR s4 sp ∧ tokN (s4.1 ++ more, false) sp = ((tokN s4 sp).1 ++ more, false) := by
      unfold tokR
      unfold tokN at v ⊢
      by_cases h0 : sp = 0
      · simp only [if_pos h0] at v ⊢
        exact text_ext s4 more v
      · simp only [if_neg h0]; exact ⟨trivial, trivial⟩
    rw [z.1, z.2]
    obtain ⟨s5, hs5⟩ : ∃ s5, tokN s4 sp = s5 := ⟨_, rfl⟩
    rw [hs5] at c5 c6 c7 e3 e4 ⊢
    have w := var_ext s5 more c5
    rw [w.1, w.2]
    have hle : ((varN s5).1.length : Int) ≤ (varN s5).1.length + more.length := by omega
    rw [if_pos ⟨c1, c2, c3, c4, rfl, c6, by simp only [List.length_append]; omega⟩]
    simp only [List.length_append] at *
    refine ⟨?_, by omega⟩
    rw [e1, e2]
    congr 1
    refine Prod.ext rfl (Prod.ext rfl (Prod.ext ?_ ?_))
    · simp only; omega
    · simp only; omega
end Go.Proofs.Ytbioajgmceodhaa
