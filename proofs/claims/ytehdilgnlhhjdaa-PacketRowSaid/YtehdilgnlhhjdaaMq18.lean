/-
  What was protected is unprotected; some of chapter 9's runs.
-/
import Derived.Test.YtehdilgnlhhjdaaMq17
import Derived.Test.YtehdilgnlhhjdaaJn
import Derived.Test.YtehdilgnlhhjdaaMq14
import Derived.Test.YtehdilgnlhhjdaaMq4
import Derived.Maps.AppendAt
import Derived.Test.YtehdilgnlhhjdaaHre
import Derived.Test.YtehdilgnlhhjdaaMq6
import Derived.ArgAppend
import Derived.Deep.Upon
namespace Go.Proofs.Ytehdilgnlhhjdaa
section
set_option linter.unusedVariables false
set_option linter.unusedSimpArgs false
open Go.RowKit Go.ChangeShapes Go.WideShapes Go.Deep
theorem first_kept (m : HN) (h0 : 0 ≤ m.s) (h2 : m.s ≤ 2) (w0 : 1 ≤ m.w) (w4 : m.w ≤ 4) : andB (hfirst m) (if m.s = 2 then 24 else 12) = 0 := by
  unfold hfirst
  have hw : m.w = 1 ∨ m.w = 2 ∨ m.w = 3 ∨ m.w = 4 := by omega
  by_cases h : m.s = 2
  · rw [if_pos h, if_pos h]
    split <;> rcases hw with h | h | h | h <;> rw [h] <;> decide
  · rw [if_neg h, if_neg h]
    have hs : m.s = 0 ∨ m.s = 1 := by omega
    rcases hs with h' | h' <;> rcases hw with h | h | h | h <;> rw [h', h] <;> decide
theorem unp_pack (sk mk n : Int) (m : HN) (tok pay more : List Int) (l : Int) (has : Bool) (hmay : mayB n m tok pay = true) (htb : Byt m.t.l) (hfb : Byt m.f.l) (hkb : Byt tok) (hpb : Byt pay) (hmore : m.s = 2 → more = [])
    (hw : wholeS l has (cutS n m.w) m.w = n) : unpS sk mk l has (packS sk mk n m tok pay ++ more) = (m, tok, n, pay, 0) := by
  obtain ⟨hrev, hle⟩ := rev_pack sk mk n m tok pay more hmay htb hfb hkb hpb hmore
  have hh := hmay
  unfold mayB at hh
  simp only [Bool.and_eq_true, decide_eq_true_eq] at hh
  obtain ⟨⟨⟨hr, hn⟩, hw4⟩, hl⟩ := hh
  obtain ⟨s0, s2, w0, w4, t32, t0, p0, f0⟩ := hright_parts _ _ hr
  have hbare : bareS sk n m tok pay = (hencS m tok (m.w + pay.length + 8) ++ beS m.w.toNat (cutS n m.w)) ++ sealS sk n (hencS m tok (m.w + pay.length + 8) ++ beS m.w.toNat (cutS n m.w)) pay := rfl
  have hDl : (hencS m tok (m.w + pay.length + 8) ++ beS m.w.toNat (cutS n m.w)).length = (hencS m tok (m.w + pay.length + 8)).length + m.w.toNat := by rw [List.length_append, beS_len]
  unfold unpS
  rw [hrev]
  simp only
  rw [hw, hbare, ← hDl, List.take_append_of_le_length (Nat.le_refl _), List.take_length, List.drop_append_of_le_length (Nat.le_refl _), List.drop_length, List.nil_append]
  obtain ⟨o1, o2⟩ := open_seal sk n (hencS m tok (m.w + pay.length + 8) ++ beS m.w.toNat (cutS n m.w)) pay hpb
  obtain ⟨r, hhd⟩ := hfirst_head m tok (m.w + pay.length + 8)
  rw [o1, o2, if_neg (by decide), if_pos]
  have : (hencS m tok (m.w + pay.length + 8) ++ beS m.w.toNat (cutS n m.w) ++ sealS sk n (hencS m tok (m.w + pay.length + 8) ++ beS m.w.toNat (cutS n m.w)) pay).getD 0 0 = hfirst m := by rw [hhd]; rfl
  rw [this]
  exact first_kept m s0 s2 w0 w4
theorem henc_100 (m : HN) (tok : List Int) (n : Int) (h : tok.length ≤ 32) : (hencS m tok n).length ≤ 100 := by
  unfold hencS
  split
  · have e : (m.t.l).length = 8 := rfl
    simp only [List.length_cons]; omega
  · have e1 : (m.t.l).length = 8 := rfl
    have e2 : (m.f.l).length = 8 := rfl
    have e3 := textB_le tok
    have e4 : (twoB (16384 + n)).length = 2 := rfl
    have e5 : (if m.s = 0 then textB tok else []).length ≤ 40 := by split; omega; simp
    simp only [List.length_append, List.length_cons, List.length_nil]; omega
theorem may_ok (n : Int) (m : HN) (tok pay : List Int) (hr : hrightB m tok.length = true) (hn : n ≤ 4611686018427387903) (h4 : 4 ≤ pay.length) (hl : pay.length ≤ 300) : mayB n m tok pay = true := by
  obtain ⟨s0, s2, w0, w4, t32, _⟩ := hright_parts _ _ hr
  have := henc_100 m tok (m.w + pay.length + 8) t32
  unfold mayB
  rw [hr, decide_eq_true hn, decide_eq_true (by omega), decide_eq_true (by omega)]; rfl
theorem whole_small (l n k : Int) (h1 : 0 ≤ n) (h2 : n < 128) : wholeS l false (cutS n k) k = n := by
  have hf : follS l false = 0 := rfl
  unfold wholeS
  rw [hf]
  unfold upS cutS
  rcases pW_four k with h | h | h | h
  · rw [(win_of k).1 h]; (repeat' split) <;> omega
  · rw [(win_of k).2.1 h]; (repeat' split) <;> omega
  · rw [(win_of k).2.2.1 h]; (repeat' split) <;> omega
  · rw [(win_of k).2.2.2 h]; (repeat' split) <;> omega
theorem short_more (bs more : List Int) (x : HN × List Int × Int × Int) (hp : parseS bs = some x) (hs : x.1.s = 2) : ∃ y, parseS (bs ++ more) = some y ∧ y.2.2.2 = ((bs ++ more).length : Int) := by
  have hne : bs ≠ [] := by rintro rfl; rw [parse_nil] at hp; cases hp
  obtain ⟨z, r, rfl⟩ : ∃ z r, bs = z :: r := List.exists_cons_of_ne_nil hne
  unfold parseS at hp ⊢
  simp only at hp ⊢
  rw [List.cons_append, (take_cons z _).1, (take_cons z _).2]
  rw [(take_cons z _).1, (take_cons z _).2] at hp
  by_cases h1 : z / 64 % 2 = 0
  · rw [if_pos h1] at hp; cases hp
  rw [if_neg h1] at hp ⊢
  by_cases h2 : z / 128 = 0
  · rw [if_pos h2] at hp ⊢
    split at hp
    case isFalse => cases hp
    case isTrue hc =>
      obtain ⟨c1, c2⟩ := hc
      have h8 : 8 ≤ r.length := by
        unfold takeN at c1
        split at c1
        · rename_i hh; simp only at hh; omega
        · cases c1
      have e1 : takeN ((r, false) : St) 8 = (r.drop 8, false) := by unfold takeN; rw [if_pos (by simp; omega)]; rfl
      have e2 : takeN ((r ++ more, false) : St) 8 = ((r ++ more).drop 8, false) := by unfold takeN; rw [if_pos (by simp; omega)]; rfl
      rw [e1] at c2
      rw [e2, if_pos ⟨rfl, by simp only [List.length_drop, List.length_append] at c2 ⊢; omega⟩]
      exact ⟨_, rfl, rfl⟩
  · rw [if_neg h2] at hp
    unfold htailS at hp
    split at hp
    case isFalse => cases hp
    case isTrue hc =>
      have hd := of_decide_eq_true hc.1
      injection hp with hp
      have : x.1.s = z / 16 % 4 := by rw [← hp]
      omega
/-- The head of a packet that is cut, whatever stands behind it. -/
theorem cut_pack (sk mk n : Int) (m : HN) (tok pay more : List Int) (hmay : mayB n m tok pay = true) (htb : Byt m.t.l) (hfb : Byt m.f.l) (hkb : Byt tok) (hpb : Byt pay) :
    ∃ x, parseS (packS sk mk n m tok pay ++ more) = some x ∧ x.2.2.2 = (if m.s = 2 then ((packS sk mk n m tok pay ++ more).length : Int) else ((packS sk mk n m tok pay).length : Int)) := by
  by_cases h2 : m.s = 2
  · have hh := hmay
    unfold mayB at hh
    simp only [Bool.and_eq_true, decide_eq_true_eq] at hh
    obtain ⟨⟨⟨hr, hn⟩, hw4⟩, hl⟩ := hh
    obtain ⟨s0, s2, w0, w4, t32, t0, p0, f0⟩ := hright_parts _ _ hr
    have hrev := (rev_pack sk mk n m tok pay [] hmay htb hfb hkb hpb (fun _ => rfl)).1
    rw [List.append_nil] at hrev
    have hp : ∃ x, parseS (packS sk mk n m tok pay) = some x := by
      cases hp : parseS (packS sk mk n m tok pay) with
      | none => unfold revS at hrev; rw [hp] at hrev; cases hrev
      | some x => exact ⟨x, rfl⟩
    obtain ⟨x, hx⟩ := hp
    rw [if_pos h2]
    exact short_more _ more x hx (by
      unfold revS at hrev
      obtain ⟨m', tok', a, b⟩ := x
      rw [hx] at hrev
      injection hrev with hrev
      injection hrev with hrev
      have : (revHN (firstU mk (packS sk mk n m tok pay) m' a.toNat) m').s = m.s := by rw [hrev]
      exact this.trans h2)
  · have hrev := (rev_pack sk mk n m tok pay more hmay htb hfb hkb hpb (fun h => absurd h h2)).1
    unfold revS at hrev
    rw [if_neg h2]
    cases hp : parseS (packS sk mk n m tok pay ++ more) with
    | none => rw [hp] at hrev; cases hrev
    | some x =>
      obtain ⟨m', tok', a, b⟩ := x
      have hbd := parse_bd _ _ _ _ _ hp
      rw [hp] at hrev
      injection hrev with hrev
      injection hrev with _ _ _ _ _ hrev
      exact ⟨_, rfl, by show b = _; omega⟩
def knH : HN := ⟨2, .zero, .zero, 2, false⟩
def knG : HN := ⟨0, .zero, .zero, 1, false⟩
theorem knH_wf : knH.wf := ⟨by decide, by decide, by decide, by decide, HN.zero_wf.tb, HN.zero_wf.fb⟩
theorem knG_wf : knG.wf := ⟨by decide, by decide, by decide, by decide, HN.zero_wf.tb, HN.zero_wf.fb⟩
theorem kn_may : mayB 7 knH [] [97, 98, 99] = true := by decide
theorem kn_not : mayB 7 knG [] [97] = false := by decide
theorem kn_whole : wholeS 6 true (cutS 7 2) 2 = 7 := by decide
set_option maxRecDepth 100000 in
set_option maxHeartbeats 4000000 in
theorem known9_any (w : World) : Calls Try.prog 10 #[] w (FrPost (.bool true) w) := by
  have HP := Lib.hid (fun W A c (h : Rd W W.heap.size A 3 [97, 98, 99]) (h1 : 3 ≤ c) (h2 : c ≤ maxLen) => (show Calls Try.prog 15 #[.agg #[.int .u64 5, .int .u64 6], .agg #[.int .i64 2, .int .u8 0, .int .u8 0, .int .u8 0, .int .u8 0, .int .u8 0, .int .u8 0, .int .u8 0, .int .u8 0, .int .u8 0, .int .u8 0, .int .u8 0, .int .u8 0, .int .u8 0, .int .u8 0, .int .u8 0, .int .u8 0, .slice none 0 0, .int .i64 2, .bool false], .int .u64 7, .slice A 3 c] W (fun e w' => ∃ v, e = .returned (.tuple #[v, .int .i64 0]) ∧ Own w' W.heap.size 5 v (packS 5 6 7 knH [] [97, 98, 99]) ∧ Below W.heap.size W w') from
    (protect_any (fun _ => True) 5 6 7 knH Sl.nil [] A 3 c [97, 98, 99] W ⟨knH_wf, inD_nil _ _⟩ h h1 h2 (by omega) (by omega) (by omega) (by omega) (by omega) (by omega) (by omega) (by decide) (by decide)).mono (fun e w' hh => by unfold ProPost at hh; rw [if_pos kn_may, if_pos kn_may] at hh; exact hh)))
  have HQ := Lib.hid (fun W A c (h : Rd W W.heap.size A 1 [97]) (h1 : 1 ≤ c) (h2 : c ≤ maxLen) => (show Calls Try.prog 15 #[.agg #[.int .u64 5, .int .u64 6], .agg #[.int .i64 0, .int .u8 0, .int .u8 0, .int .u8 0, .int .u8 0, .int .u8 0, .int .u8 0, .int .u8 0, .int .u8 0, .int .u8 0, .int .u8 0, .int .u8 0, .int .u8 0, .int .u8 0, .int .u8 0, .int .u8 0, .int .u8 0, .slice none 0 0, .int .i64 1, .bool false], .int .u64 7, .slice A 1 c] W (fun e w' => ∃ v, e = .returned (.tuple #[v, .int .i64 1]) ∧ Below W.heap.size W w') from
    (protect_any (fun _ => True) 5 6 7 knG Sl.nil [] A 1 c [97] W ⟨knG_wf, inD_nil _ _⟩ h h1 h2 (by omega) (by omega) (by omega) (by omega) (by omega) (by omega) (by omega) (by decide) (by decide)).mono (fun e w' hh => by unfold ProPost at hh; rw [kn_not] at hh; obtain ⟨v, h1, h2, h3⟩ := hh; exact ⟨v, h1, h3⟩)))
  have hun := unp_pack 5 6 7 knH [] [97, 98, 99] [] 6 true kn_may HN.zero_wf.tb HN.zero_wf.fb Byt.nil (by intro x hx; simp at hx; omega) (fun _ => rfl) kn_whole
  rw [List.append_nil] at hun
  obtain ⟨X, hX⟩ : ∃ X, packS 5 6 7 knH [] [97, 98, 99] = X := ⟨_, rfl⟩
  have hXl : X.length ≤ 1000000 := by
    rw [← hX]
    have hh := kn_may
    show (turnB _ _ _ _ _).length ≤ _
    rw [turnB_len]
    unfold bareS
    rw [List.length_append, List.length_append, beS_len, sealS_len]
    have hq := henc_100 knH [] (knH.w + ([97, 98, 99] : List Int).length + 8) (by simp)
    have h3 : ([97, 98, 99] : List Int).length = 3 := rfl
    rw [h3] at hq ⊢
    have h9 : knH.w.toNat = 2 := rfl
    rw [h9]
    omega
  rw [hX] at HP hun
  have HR := Lib.hid (fun W A c (h : Rd W W.heap.size A X.length X) (h1 : X.length ≤ c) (h2 : c ≤ maxLen) (h3 : A = none → c = 0) => (show Calls Try.prog 16 #[.agg #[.int .u64 5, .int .u64 6], .slice A X.length c, .int .u64 6, .bool true] W (fun e w' => ∃ d v, e = .returned (.tuple #[hdV knH d, .int .u64 7, v, .int .i64 0]) ∧ Own w' W.heap.size 5 v [97, 98, 99] ∧ Below W.heap.size W w') from
    (unprotect_any 5 6 6 true A X.length c X W h hXl h1 h2 h3 (by omega) (by omega) (by omega) (by omega) (by omega) (by omega)).mono (fun e w' hh => by unfold UnpPost at hh; rw [hun] at hh; obtain ⟨d, v, g1, g2, g3, g4, g5⟩ := hh; exact ⟨d, v, g1, g4, g5⟩)))
  obtain ⟨XL, hXL⟩ : ∃ l, X.length = l := ⟨_, rfl⟩
  rw [hXL] at HR
  have HXL := Lib.hid hXL
  clear hun hX hXl hXL
  have kc := fun (w : World) (C : Array Value) (n c : Nat) => Lib.run_convert_bytes_const (P := Try.prog) w 28 5 C n c Try.underlying28 Try.underlying5
  have hKK : At (w.alloc (.cells #[.int .u64 5, .int .u64 6] 40)) w.heap.size 40 [.int .u64 5, .int .u64 6] := At.new w 40 [.int .u64 5, .int .u64 6]
  have hb0 : Below w.heap.size w (w.alloc (.cells #[.int .u64 5, .int .u64 6] 40)) := (Below.refl _ _).alloc (Nat.le_refl _) _
  obtain ⟨w1, hw1⟩ : ∃ x, w.alloc (.cells #[.int .u64 5, .int .u64 6] 40) = x := ⟨_, rfl⟩
  rw [hw1] at hKK hb0
  have hbm : Below w1.heap.size w1 (w1.alloc (.cells #[.int .u8 97, .int .u8 98, .int .u8 99] 5 (3, 4))) := (Below.refl _ _).alloc (Nat.le_refl _) _
  have hrm : Rd (w1.alloc (.cells #[.int .u8 97, .int .u8 98, .int .u8 99] 5 (3, 4))) (w1.heap.size + 1) (some ⟨w1.heap.size, 0, none⟩) 3 [97, 98, 99] := Rd.litm w1 5 [97, 98, 99] (by intro x hx; simp at hx; omega) #[.int .u8 97, .int .u8 98, .int .u8 99] (3, 4) rfl
  have hsm : (w1.alloc (.cells #[.int .u8 97, .int .u8 98, .int .u8 99] 5 (3, 4))).heap.size = w1.heap.size + 1 := by simp
  rw [← hsm] at hrm
  obtain ⟨w2, hw2⟩ : ∃ x, w1.alloc (.cells #[.int .u8 97, .int .u8 98, .int .u8 99] 5 (3, 4)) = x := ⟨_, rfl⟩
  rw [hw2] at hrm hbm
  clear hsm
  go_enter Try.func10, Try.ntmps10
  go_wp2_with (first | ((with_reducible refine at_ldk ?_); refine ld_kt w.heap.size [.int .u64 5, .int .u64 6] (by rfl) hKK rfl ?_) | fail)
  refine (HP.out w2 _ 3 hrm (Nat.le_refl _) (by unfold maxLen; omega)).mono ?_
  rintro e w3 ⟨v3, rfl, ho3, hb3⟩
  obtain ⟨A3, c3, hv3, x1, x2, x3⟩ := ho3.open_n XL HXL.out
  have hA3 : A3 = none → c3 = 0 := by
    intro hh; subst hh
    rcases ho3.1.2 with ⟨hv, _⟩ | ⟨g, cap, cur, hv, _⟩
    · rw [hv3] at hv; injection hv with _ _ hv
    · rw [hv3] at hv; injection hv with hv; cases hv
  subst hv3
  have hb4 := (hb0.trans (hbm.mono hb0.size)).trans (hb3.mono (by have := hb0.size; have := hbm.size; omega))
  have hKK3 := (hKK.below hbm hKK.lt).below hb3 (by have := hKK.lt; have := hbm.size; omega)
  clear hw1 hw2 hrm hbm hb3 hb0 hKK
  go_wp2_with (first | ((with_reducible refine at_ldk ?_); refine ld_kt w.heap.size [.int .u64 5, .int .u64 6] (by rfl) hKK3 rfl ?_) | fail)
  refine (HR.out w3 _ c3 x3 x1 x2 hA3).mono ?_
  rintro e w5 ⟨d5, v5, rfl, ho5, hb5⟩
  have hKK5 := hKK3.below hb5 hKK3.lt
  have hb6 := hb4.trans (hb5.mono hb4.size)
  obtain ⟨A5, c5, hv5, _, _, x5⟩ := ho5.open_n 3 rfl
  subst hv5
  have hN5 : At (w5.alloc (.cells #[.int .i64 0, .int .u8 0, .int .u8 0, .int .u8 0, .int .u8 0, .int .u8 0, .int .u8 0, .int .u8 0, .int .u8 0, .int .u8 0, .int .u8 0, .int .u8 0, .int .u8 0, .int .u8 0, .int .u8 0, .int .u8 0, .int .u8 0, .slice none 0 0, .int .i64 0, .bool false] 30)) w5.heap.size 30 (hdL .zero .nil) := At.new w5 30 (hdL .zero .nil)
  have hbz : Below w5.heap.size w5 (w5.alloc (.cells #[.int .i64 0, .int .u8 0, .int .u8 0, .int .u8 0, .int .u8 0, .int .u8 0, .int .u8 0, .int .u8 0, .int .u8 0, .int .u8 0, .int .u8 0, .int .u8 0, .int .u8 0, .int .u8 0, .int .u8 0, .int .u8 0, .int .u8 0, .slice none 0 0, .int .i64 0, .bool false] 30)) := (Below.refl _ _).alloc (Nat.le_refl _) _
  have hvv : hdV knH d5 = .agg (hdL knH d5).toArray := rfl
  rw [hvv]
  have hGo : (hdL knH d5).all (·.oneCell') = true := rfl
  obtain ⟨G, hG⟩ : ∃ G, hdL knH d5 = G := ⟨_, rfl⟩
  have hGl : G.length = 20 := by rw [← hG]; rfl
  rw [hG] at hGo ⊢
  have HGL := Lib.hid hGl
  clear hvv hG hGl hb5 hKK3 ho5 ho3 hb4 x3
  go_wp2_with (first | ((with_reducible refine at_sth ?_); refine st_hd w5.heap.size (hdL .zero .nil) G (by rfl) (by rfl) hN5 rfl HGL.out hGo ?_; intro w6 hA6 hk6; have hbs := hk6.below hbz hbz.size (by intro j hj; subst hj; exact Nat.le_refl _); have hKK6 := hKK5.below hbs hKK5.lt; have hr6 := (x5.below hbs).more hbs.size; have hb7 := hb6.trans (hbs.mono hb6.size); clear hbs hbz hk6 hN5 hA6 hKK5 x5 hb6) | ((with_reducible refine at_ldk ?_); refine ld_kt w.heap.size [.int .u64 5, .int .u64 6] (by rfl) hKK6 rfl ?_) | fail)
  have hbm : Below w6.heap.size w6 (w6.alloc (.cells #[.int .u8 97] 5 (1, 2))) := (Below.refl _ _).alloc (Nat.le_refl _) _
  have hrm : Rd (w6.alloc (.cells #[.int .u8 97] 5 (1, 2))) (w6.heap.size + 1) (some ⟨w6.heap.size, 0, none⟩) 1 [97] := Rd.litm w6 5 [97] (by intro x hx; simp at hx; omega) #[.int .u8 97] (1, 2) rfl
  have hsm : (w6.alloc (.cells #[.int .u8 97] 5 (1, 2))).heap.size = w6.heap.size + 1 := by simp
  rw [← hsm] at hrm
  refine (HQ.out _ _ 1 hrm (Nat.le_refl _) (by unfold maxLen; omega)).mono ?_
  rintro e w8 ⟨v8, rfl, hb8⟩
  have hr8 := (((hr6.below hbm).more hbm.size).below hb8).more hb8.size
  have hb9 := (hb7.trans (hbm.mono hb7.size)).trans (hb8.mono (by have := hb7.size; have := hbm.size; omega))
  have t8 := run_text (P := Try.prog) (c := c5) hr8 28 5 9 Try.underlying28 Try.underlying5 Try.underlying9
  have hT : strOfNums [97, 98, 99] = { data := #[97, 98, 99] } := rfl
  rw [hT] at t8
  clear hr8 hb8 hbm hrm hr6 hsm hT kc
  go_wp2_with fail
  go_ret
  exact ⟨rfl, hb9⟩
end
section
set_option linter.unusedVariables false
set_option linter.unusedSimpArgs false
open Go.RowKit Go.ChangeShapes Go.WideShapes Go.Deep
/-- A packet's head, its token, its number. -/
structure PI where
  m : HN
  tok : List Int
  i : Nat
def keyR (secret : Int) (m : HN) : Int := IntKind.u64.wrap (secret + m.s)
def skR (secret : Int) (m : HN) : Int := keyedS (keyR secret m) [115, 101, 97, 108]
def mkR (secret : Int) (m : HN) : Int := keyedS (keyR secret m) [109, 97, 115, 107]
def itR (secret : Int) (pay : List Int) (x : PI) : List Int := packS (skR secret x.m) (mkR secret x.m) x.i x.m x.tok pay
def rowR (secret : Int) (pay : List Int) (l : List PI) : List Int := l.flatMap (itR secret pay)
structure PiOk (x : PI) : Prop where
  r : hrightB x.m x.tok.length = true
  tb : Byt x.m.t.l
  fb : Byt x.m.f.l
  kb : Byt x.tok
  ik : x.i ≤ 5
theorem pack_len9 (sk mk n : Int) (m : HN) (tok pay : List Int) (h : mayB n m tok pay = true) : 1 ≤ (packS sk mk n m tok pay).length ∧ (packS sk mk n m tok pay).length ≤ 512 := by
  unfold mayB at h
  simp only [Bool.and_eq_true, decide_eq_true_eq] at h
  obtain ⟨⟨⟨hr, hn⟩, hw4⟩, hl⟩ := h
  obtain ⟨s0, s2, w0, w4, t32, t0, p0, f0⟩ := hright_parts _ _ hr
  unfold packS
  rw [turnB_len]
  unfold bareS
  rw [List.length_append, List.length_append, beS_len, sealS_len]
  omega
section
variable {secret : Int} {pay : List Int} {x : PI} {l rest : List PI}
theorem PiOk.may (ok : PiOk x) (h4 : 4 ≤ pay.length) (h3 : pay.length ≤ 300) : mayB x.i x.m x.tok pay = true := may_ok x.i x.m x.tok pay ok.r (by have := ok.ik; omega) h4 h3
theorem it_len (ok : PiOk x) (h4 : 4 ≤ pay.length) (h3 : pay.length ≤ 300) : 1 ≤ (itR secret pay x).length ∧ (itR secret pay x).length ≤ 512 := pack_len9 _ _ _ _ _ _ (ok.may h4 h3)
theorem row_cons : rowR secret pay (x :: rest) = itR secret pay x ++ rowR secret pay rest := by unfold rowR; rw [List.flatMap_cons]
theorem row_snoc : rowR secret pay (l ++ [x]) = rowR secret pay l ++ itR secret pay x := by unfold rowR; rw [List.flatMap_append]; simp
theorem row_cut (ok : PiOk x) (h4 : 4 ≤ pay.length) (h3 : pay.length ≤ 300) (hpb : Byt pay) (hs : x.m.s = 2 → rest = []) : ∃ y, parseS (rowR secret pay (x :: rest)) = some y ∧ y.2.2.2 = ((itR secret pay x).length : Int) := by
  obtain ⟨y, h1, h2⟩ := cut_pack (skR secret x.m) (mkR secret x.m) x.i x.m x.tok pay (rowR secret pay rest) (ok.may h4 h3) ok.tb ok.fb ok.kb hpb
  refine ⟨y, by rw [row_cons]; exact h1, ?_⟩
  rw [h2]
  by_cases e : x.m.s = 2
  · rw [if_pos e, hs e]
    unfold rowR itR
    simp
  · rw [if_neg e]; rfl
theorem row_open (ok : PiOk x) (h4 : 4 ≤ pay.length) (h3 : pay.length ≤ 300) (hpb : Byt pay) (hs : x.m.s = 2 → rest = []) : unpS (skR secret x.m) (mkR secret x.m) 0 false (rowR secret pay (x :: rest)) = (x.m, x.tok, (x.i : Int), pay, 0) := by
  rw [row_cons]
  exact unp_pack _ _ _ x.m x.tok pay _ 0 false (ok.may h4 h3) ok.tb ok.fb ok.kb hpb (fun e => by rw [hs e]; rfl) (whole_small 0 x.i x.m.w (by omega) (by have := ok.ik; omega))
end
/-- Heads in a row: their cells. -/
abbrev HL := List (HN × Sl)
def hdsC (L : HL) : List Value := L.flatMap fun x => hdL x.1 x.2
theorem hdsC_get : ∀ (L : HL) (i : Nat) (x : HN × Sl), L[i]? = some x → ∀ j v, (hdL x.1 x.2)[j]? = some v → (hdsC L)[i * 20 + j]? = some v
  | [], i, x, h => by simp at h
  | y :: t, 0, x, h => by
    simp at h
    subst h
    intro j v hv
    unfold hdsC
    rw [List.flatMap_cons, Nat.zero_mul, Nat.zero_add, List.getElem?_append_left (List.getElem?_eq_some_iff.1 hv).1]
    exact hv
  | y :: t, i + 1, x, h => by
    intro j v hv
    have := hdsC_get t i x (by simpa using h) j v hv
    unfold hdsC at *
    rw [List.flatMap_cons, List.getElem?_append_right (by simp [hdL]; omega)]
    rw [show (i + 1) * 20 + j - (hdL y.1 y.2).length = i * 20 + j by simp [hdL]; omega]
    exact this
/-- A slice of heads of the call's own. -/
abbrev OwnH (w : World) (base : Nat) (v : Value) (L : HL) : Prop := w.ownsRow base 30 20 v L.length (hdsC L)
section
variable {w w' : World} {base : Nat} {v : Value} {L : HL}
theorem OwnH.nil_ (w : World) (base : Nat) : OwnH w base (.slice none 0 0) [] := ⟨rfl, .inl ⟨rfl, rfl⟩⟩
theorem OwnH.keep (h : OwnH w base v L) (hk : ∀ k, v.ownBlock = some k → w'.heap[k]? = w.heap[k]?) : OwnH w' base v L := by
  refine ⟨h.1, ?_⟩
  rcases h.2 with h0 | ⟨g, cap, cur, rfl, hb, hg, hr⟩
  · exact .inl h0
  · exact .inr ⟨g, cap, cur, rfl, hb, (hk g rfl).trans hg, hr⟩
theorem OwnH.lt (h : OwnH w base v L) : ∀ k, v.ownBlock = some k → base ≤ k ∧ k < w.heap.size := World.ownsRow.lt h
theorem OwnH.below (h : OwnH w base v L) (k : Below w.heap.size w w') : OwnH w' base v L := h.keep fun j hj => k.block j (h.lt j hj).2
theorem OwnH.shape (h : OwnH w base v L) : ∃ A c, v = .slice A L.length c ∧ L.length ≤ c ∧ c ≤ maxLen := by
  rcases h.2 with ⟨rfl, h0⟩ | ⟨g, cap, cur, rfl, hb, hg, hn, hm, hs, ht⟩
  · exact ⟨none, 0, by rw [h0], by omega, by unfold maxLen; omega⟩
  · exact ⟨_, cap, rfl, hn, hm⟩
theorem OwnH.at_ (h : OwnH w base v L) {i : Nat} {x : HN × Sl} (hi : L[i]? = some x) : ∃ g c, v = .slice (some ⟨g, 0, none⟩) L.length c ∧ base ≤ g ∧ g < w.heap.size ∧ ∀ j u, (hdL x.1 x.2)[j]? = some u → w.cell? ⟨g, i * 20 + j, none⟩ = some u := by
  have hlt := (List.getElem?_eq_some_iff.1 hi).1
  have hb2 := h.lt
  rcases h.2 with ⟨rfl, h0⟩ | ⟨g, cap, cur, rfl, hb, hg, hn, hm, hs, ht⟩
  · omega
  · refine ⟨g, cap, rfl, hb, (hb2 g rfl).2, fun j u hj => ?_⟩
    have hA : At w g 30 cur.toList := hg
    have hc := hdsC_get L i x hi j u hj
    rw [hA.cell]
    rw [← ht, List.getElem?_take] at hc
    split at hc
    · exact hc
    · cases hc
end
theorem hd_bytes : (Try.prog.info? 30).map (fun i => (i.zero, i.size, i.bytes)) = some (some (.agg (hdL .zero .nil).toArray), 20, 64) := by kernel_rfl
/-- append of one head that stands in a block. -/
theorem run_append_h (w : World) (ty : TypeId) (base : Nat) (v : Value) (L : HL) (hown : OwnH w base v L) (g c : Nat) (x : HN × Sl) (hA : At w g 30 (hdL x.1 x.2)) (hN : L.length ≤ 100000) (hbase : base ≤ w.heap.size) :
    ∃ v' w', (Builtin.append_ #[55, 55] ty #[v, .slice (some ⟨g, 0, none⟩) 1 c]).run Try.prog w = .ok v' w' ∧ OwnH w' base v' (L ++ [x]) ∧ w.grownBy w' v.ownBlock ∧ (v'.ownBlock = v.ownBlock ∨ v'.ownBlock = some w.heap.size) := by
  have hI := hd_bytes
  obtain ⟨i, hi, hz, hsz, hby⟩ : ∃ i, Try.prog.info? 30 = some i ∧ i.zero = some (.agg (hdL .zero .nil).toArray) ∧ i.size = 20 ∧ i.bytes = 64 := by
    cases hq : Try.prog.info? 30 with
    | none => rw [hq] at hI; cases hI
    | some i =>
      rw [hq] at hI
      simp only [Option.map_some, Option.some.injEq, Prod.mk.injEq] at hI
      exact ⟨i, rfl, hI⟩
  have hone : ∀ u ∈ hdL x.1 x.2, u.oneCell' = true := fun u hu => by
    simp [hdL] at hu
    rcases hu with rfl | rfl | rfl | rfl | rfl | rfl | rfl | rfl | rfl | rfl | rfl | rfl | rfl | rfl | rfl | rfl | rfl | rfl | rfl | rfl <;> rfl
  obtain ⟨v', w', k1, k2, k3, _, k5⟩ := run_append_own_at (P := Try.prog) (w := w) base 55 ty 30 i _ 20 64 Try.underlying55 hi hz hsz hby rfl (by omega) v L.length (hdsC L) hown ⟨g, 0, none⟩ 1 c (hdL x.1 x.2) rfl (fun j u hj => by rw [Addr.add_lit, Nat.zero_add, hA.cell]; exact hj) hone (by unfold maxLen; omega) (by omega) hbase
  refine ⟨v', w', k1, ?_, k3, k5⟩
  have e : hdsC (L ++ [x]) = hdsC L ++ hdL x.1 x.2 := by unfold hdsC; rw [List.flatMap_append]; simp
  unfold OwnH
  rw [List.length_append, e]
  exact k2
section
variable {w : World} {ops : Array Oper} {rest : List Oper} {o : Oper} {a : Act} {Q : Exit → Act → World → Prop}
theorem wpList_append_h (hgd : o.guard = none) (s x : Operand) (ho : o.op = .call { callee := .builtin .append, args := #[s, x], argTypes := #[55, 55] }) (base : Nat) (v : Value) (L : HL) (hs : a.eval s = v) (hown : OwnH w base v L)
    (g c : Nat) (hx : a.eval x = .slice (some ⟨g, 0, none⟩) 1 c) (y : HN × Sl) (hA : At w g 30 (hdL y.1 y.2)) (hN : L.length ≤ 100000) (hbase : base ≤ w.heap.size)
    (h : ∀ v' w', OwnH w' base v' (L ++ [y]) → w.grownBy w' v.ownBlock → wpList Try.prog ops Q rest (a.put o.dst v') w') :
    wpList Try.prog ops Q (o :: rest) a w := by
  obtain ⟨v', w', k1, k2, k3, _⟩ := run_append_h w o.type base v L hown g c y hA hN hbase
  refine wpList_plain hgd fun K hK => ?_
  unfold Oper.wp
  simp [execOp, ho, resolve, invoke, builtin, hs, hx, k1, Result.andThen]
  exact hK _ _ (h v' w' k2 k3)
end
theorem fold_seth : ∀ (l : List Value) (k : Nat) (C : Array Value), (l.zipIdx k).foldl (fun cs (x : Value × Nat) => cs.setIfInBounds (0 + x.2) x.1) C = (setFrom C.toList k l).toArray
  | [], k, C => by simp [setFrom]
  | v :: r, k, C => by
    rw [List.zipIdx_cons, List.foldl_cons, fold_seth r (k + 1)]
    simp [setFrom]
theorem run_bsh (w : World) (l : List Value) (hl : l.length = 20) :
    (Instr.buildSlice 55 1 #[(0, .agg l.toArray)]).run Try.prog w = .ok (.slice (some ⟨w.heap.size, 0, none⟩) 1 1) (w.alloc (.cells l.toArray 30)) := by
  have hI := hd_bytes
  cases hq : Try.prog.info? 30 with
  | none => rw [hq] at hI; cases hI
  | some i =>
    rw [hq] at hI
    simp only [Option.map_some, Option.some.injEq, Prod.mk.injEq] at hI
    obtain ⟨hz, hs, _⟩ := hI
    have hf : ∀ C : Array Value, C.size = 20 → Instr.fill (fun i => some (i * 20, 20)) C [(0, .agg l.toArray)] = some l.toArray := by
      intro C hC
      unfold Instr.fill
      simp only [Value.cells, List.size_toArray, hl, hC]
      have := fold_seth l 0 C
      rw [setFrom_all _ _ (by simp [hC, hl])] at this
      simp [Instr.fill]
      rw [← this]
      simp [Array.foldl_toList]
    have hu := Try.underlying55
    simp [Instr.buildSlice, run_underlying hu, sizeOf, typeInfo, hq, hs, zeroValue, hz, newRow]
    rw [hf _ (by simp)]
    simp
section
variable {ops : Array Oper} {rest : List Oper} {a : Act} {w : World} {Q : Exit → Act → World → Prop} {dst : Option Tmp} {x : Operand} {t : TypeId} {pos : String} {after : Array Edge}
theorem wpList_bsh (l : List Value) (g : Nat) (hg : g = w.heap.size) (hx : a.eval x = .agg l.toArray) (hl : l.length = 20) (h : wpList Try.prog ops Q rest (a.put dst (.slice (some ⟨g, 0, none⟩) 1 1)) (w.alloc (.cells l.toArray 30))) :
    wpList Try.prog ops Q (⟨dst, .buildSlice 55 1 #[(0, x)], t, pos, after, none⟩ :: rest) a w := by
  subst hg
  refine wpList_plain rfl fun K hK => ?_
  unfold Oper.wp
  simp [execOp, hx, run_bsh w l hl, Result.andThen]
  exact hK _ _ h
end
end
section
set_option linter.unusedVariables false
set_option linter.unusedSimpArgs false
open Go.RowKit Go.ChangeShapes Go.WideShapes Go.Deep
theorem run_app_lit {P : Program} {w : World} (t ty e : TypeId) (i : TypeInfo) (ht : P.underlying t = some (.slice e)) (hi : P.info? e = some i) (hz : i.zero = some (.int .u8 0)) (hsize : i.size = 1) (hby : i.bytes = 1)
    (g n B B' : Nat) (lits : List Int) (hl : Rd w B (some ⟨g, 0, none⟩) n lits) (hn : 0 < n) (A : Option Addr) (m c : Nat) (news : List Int) (hr : Rd w B' A m news) (hB : B ≤ w.heap.size) (hlen : n + m ≤ 140737488355328) :
    ∃ A' c' w', (Builtin.append_ #[t, t] ty #[.slice (some ⟨g, 0, none⟩) n n, .slice A m c]).run P w = .ok (.slice A' (n + m) c') w' ∧ n + m ≤ c' ∧ c' ≤ maxLen ∧ A' ≠ none ∧ Rd w' w'.heap.size A' (n + m) (lits ++ news) ∧ Below w.heap.size w w' := by
  rcases Nat.eq_zero_or_pos m with h0 | h0
  · subst h0
    obtain rfl := hr.zero
    have hsrc : Src P i.size t (.slice A 0 c) 0 [] w := by
      cases A with
      | none => exact Src.ofNil w ht c
      | some a => exact Src.ofSlice w ht a 0 c [] (by simp) (fun j u h => by simp at h) (fun u h => by cases h)
    refine ⟨_, n, w, run_append_nothing w t t ty e i ht hi (some ⟨g, 0, none⟩) n n (Nat.le_refl _) (.slice A 0 c) hsrc, Nat.le_refl _, by unfold maxLen; omega, by simp, ?_, Below.refl _ _⟩
    rw [List.append_nil]
    exact hl.more hB
  · obtain ⟨a1, e1, hc1⟩ := hl.cells hn
    obtain ⟨a2, rfl, hc2⟩ := hr.cells h0
    have e1' : a1 = ⟨g, 0, none⟩ := by injection e1 with e1; exact e1.symm
    subst e1'
    obtain ⟨v', w', h1, h2, h3⟩ := run_append_arg_grows (P := P) w t ty e i (.int .u8 0) 1 1 ht hi hz hsize hby rfl (by decide) ⟨g, 0, none⟩ n n (lits.map (Value.int .u8)) (by simp [hl.1]) hc1 a2 m c (news.map (Value.int .u8)) (by simp [hr.1]) hc2 (by omega) (by unfold maxLen; omega) (by omega)
    have hown : Own w' w.heap.size e v' (lits ++ news) := ⟨by rw [List.map_append, List.length_append, hl.1, hr.1]; exact h2, hl.2.1.app hr.2.1⟩
    obtain ⟨g', c', _, rfl, _, _, _, _, x1, x2⟩ := hown.place (by rw [List.length_append, hl.1, hr.1]; omega)
    rw [List.length_append, hl.1, hr.1] at hown x1 h1
    obtain ⟨A9, c9, hv, _, _, hrd⟩ := hown.open_n (n + m) (by rw [List.length_append, hl.1, hr.1])
    injection hv with hv _ hvc
    subst hv; subst hvc
    exact ⟨_, _, w', h1, x1, x2, by simp, hrd, (Below.refl _ _).grown h3 (Nat.le_refl _) (fun k hk => by cases hk)⟩
theorem wpList_app_lit {P : Program} {w : World} {ops : Array Oper} {rest : List Oper} {o : Oper} {a : Act} {Q : Exit → Act → World → Prop} (hgd : Region.wanted o (yielded ops a.tmps) = true) (s x : Operand) (t : TypeId)
    (ho : o.op = .call { callee := .builtin .append, args := #[s, x], argTypes := #[t, t] })
    (e : TypeId) (i : TypeInfo) (ht : P.underlying t = some (.slice e)) (hi : P.info? e = some i) (hz : i.zero = some (.int .u8 0)) (hsize : i.size = 1) (hby : i.bytes = 1)
    (g n B B' : Nat) (lits : List Int) (hs : a.eval s = .slice (some ⟨g, 0, none⟩) n n) (hl : Rd w B (some ⟨g, 0, none⟩) n lits) (hn : 0 < n) (A : Option Addr) (m c : Nat) (news : List Int) (hx : a.eval x = .slice A m c) (hr : Rd w B' A m news) (hB : B ≤ w.heap.size) (hlen : n + m ≤ 140737488355328)
    (h : ∀ A' c' w', n + m ≤ c' → c' ≤ maxLen → A' ≠ none → Rd w' w'.heap.size A' (n + m) (lits ++ news) → Below w.heap.size w w' → wpList P ops Q rest (a.put o.dst (.slice A' (n + m) c')) w') : wpList P ops Q (o :: rest) a w := by
  refine wpList_step fun K hK => ?_
  rw [if_pos hgd]
  obtain ⟨A', c', w', h1, h2, h3, h4, h5, h6⟩ := run_app_lit (P := P) (w := w) t o.type e i ht hi hz hsize hby g n B B' lits hl hn A m c news hr hB hlen
  unfold Oper.wp
  simp [execOp, ho, resolve, invoke, builtin, hs, hx, h1, Result.andThen]
  exact hK _ _ (h A' c' w' h2 h3 h4 h5 h6)
end
end Go.Proofs.Ytehdilgnlhhjdaa
