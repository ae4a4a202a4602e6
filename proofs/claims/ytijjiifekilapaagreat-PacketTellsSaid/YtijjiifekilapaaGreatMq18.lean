/-
  What was protected is unprotected; some of chapter 9's runs.
-/
import Derived.Test.YtijjiifekilapaaGreatMq17
import Derived.Test.YtijjiifekilapaaGreatJn
import Derived.Test.YtijjiifekilapaaGreatHre
import Derived.Test.YtijjiifekilapaaGreatMq5
import Derived.ArgAppend
import Derived.Deep.Upon
namespace Go.Proofs.YtijjiifekilapaaGreat
section
set_option linter.unusedVariables false
set_option linter.unusedSimpArgs false
open Go.RowKit Go.ChangeShapes Go.WideShapes Go.Deep
theorem first_kept (m : HN) (h0 : 0 ≤ m.s) (h2 : m.s ≤ 2) (w0 : 1 ≤ m.w) (w4 : m.w ≤ 4) : andB (hfirst m) (if m.s = 2 then 24 else 12) = 0 := by
  unfold hfirst
  have hw : m.w = 1 ∨ m.w = 2 ∨ m.w = 3 ∨ m.w = 4 := by omega
  by_cases h : m.s = 2
  · rw [if_pos h, if_pos h]
    split <;> rcases hw with h | h | h | h <;> rw [h] <;> decide
  · rw [if_neg h, if_neg h]
    have hs : m.s = 0 ∨ m.s = 1 := by omega
    rcases hs with h' | h' <;> rcases hw with h | h | h | h <;> rw [h', h] <;> decide
theorem unp_pack (sk mk n : Int) (m : HN) (tok pay more : List Int) (l : Int) (has : Bool) (hmay : mayB n m tok pay = true) (htb : Byt m.t.l) (hfb : Byt m.f.l) (hkb : Byt tok) (hpb : Byt pay) (hmore : m.s = 2 → more = [])
    (hw : wholeS l has (cutS n m.w) m.w = n) : unpS sk mk l has (packS sk mk n m tok pay ++ more) = (m, tok, n, pay, 0) := by
  obtain ⟨hrev, hle⟩ := rev_pack sk mk n m tok pay more hmay htb hfb hkb hpb hmore
  have hh := hmay
  unfold mayB at hh
  simp only [Bool.and_eq_true, decide_eq_true_eq] at hh
  obtain ⟨⟨⟨hr, hn⟩, hw4⟩, hl⟩ := hh
  obtain ⟨s0, s2, w0, w4, t32, t0, p0, f0⟩ := hright_parts _ _ hr
  have hbare : bareS sk n m tok pay = (hencS m tok (m.w + pay.length + 8) ++ beS m.w.toNat (cutS n m.w)) ++ sealS sk n (hencS m tok (m.w + pay.length + 8) ++ beS m.w.toNat (cutS n m.w)) pay := rfl
  have hDl : (hencS m tok (m.w + pay.length + 8) ++ beS m.w.toNat (cutS n m.w)).length = (hencS m tok (m.w + pay.length + 8)).length + m.w.toNat := by rw [List.length_append, beS_len]
  unfold unpS
  rw [hrev]
  simp only
  rw [hw, hbare, ← hDl, List.take_append_of_le_length (Nat.le_refl _), List.take_length, List.drop_append_of_le_length (Nat.le_refl _), List.drop_length, List.nil_append]
  obtain ⟨o1, o2⟩ := open_seal sk n (hencS m tok (m.w + pay.length + 8) ++ beS m.w.toNat (cutS n m.w)) pay hpb
  obtain ⟨r, hhd⟩ := hfirst_head m tok (m.w + pay.length + 8)
  rw [o1, o2, if_neg (by decide), if_pos]
  have : (hencS m tok (m.w + pay.length + 8) ++ beS m.w.toNat (cutS n m.w) ++ sealS sk n (hencS m tok (m.w + pay.length + 8) ++ beS m.w.toNat (cutS n m.w)) pay).getD 0 0 = hfirst m := by rw [hhd]; rfl
  rw [this]
  exact first_kept m s0 s2 w0 w4
theorem henc_100 (m : HN) (tok : List Int) (n : Int) (h : tok.length ≤ 32) : (hencS m tok n).length ≤ 100 := by
  unfold hencS
  split
  · have e : (m.t.l).length = 8 := rfl
    simp only [List.length_cons]; omega
  · have e1 : (m.t.l).length = 8 := rfl
    have e2 : (m.f.l).length = 8 := rfl
    have e3 := textB_le tok
    have e4 : (twoB (16384 + n)).length = 2 := rfl
    have e5 : (if m.s = 0 then textB tok else []).length ≤ 40 := by split; omega; simp
    simp only [List.length_append, List.length_cons, List.length_nil]; omega
theorem may_ok (n : Int) (m : HN) (tok pay : List Int) (hr : hrightB m tok.length = true) (hn : n ≤ 4611686018427387903) (h4 : 4 ≤ pay.length) (hl : pay.length ≤ 300) : mayB n m tok pay = true := by
  obtain ⟨s0, s2, w0, w4, t32, _⟩ := hright_parts _ _ hr
  have := henc_100 m tok (m.w + pay.length + 8) t32
  unfold mayB
  rw [hr, decide_eq_true hn, decide_eq_true (by omega), decide_eq_true (by omega)]; rfl
def knH : HN := ⟨2, .zero, .zero, 2, false⟩
def knG : HN := ⟨0, .zero, .zero, 1, false⟩
theorem knH_wf : knH.wf := ⟨by decide, by decide, by decide, by decide, HN.zero_wf.tb, HN.zero_wf.fb⟩
theorem knG_wf : knG.wf := ⟨by decide, by decide, by decide, by decide, HN.zero_wf.tb, HN.zero_wf.fb⟩
theorem kn_may : mayB 7 knH [] [97, 98, 99] = true := by decide
theorem kn_not : mayB 7 knG [] [97] = false := by decide
theorem kn_whole : wholeS 6 true (cutS 7 2) 2 = 7 := by decide
set_option maxRecDepth 100000 in
set_option maxHeartbeats 4000000 in
theorem known9_any (w : World) : Calls Tryz.prog 14 #[] w (FrPost (.bool true) w) := by
  have HP := Lib.hid (fun W A c (h : Rd W W.heap.size A 3 [97, 98, 99]) (h1 : 3 ≤ c) (h2 : c ≤ maxLen) => (show Calls Tryz.prog 17 #[.agg #[.int .u64 5, .int .u64 6], .agg #[.int .i64 2, .int .u8 0, .int .u8 0, .int .u8 0, .int .u8 0, .int .u8 0, .int .u8 0, .int .u8 0, .int .u8 0, .int .u8 0, .int .u8 0, .int .u8 0, .int .u8 0, .int .u8 0, .int .u8 0, .int .u8 0, .int .u8 0, .slice none 0 0, .int .i64 2, .bool false], .int .u64 7, .slice A 3 c] W (fun e w' => ∃ v, e = .returned (.tuple #[v, .int .i64 0]) ∧ Own w' W.heap.size 5 v (packS 5 6 7 knH [] [97, 98, 99]) ∧ Below W.heap.size W w') from
    (protect_any (fun _ => True) 5 6 7 knH Sl.nil [] A 3 c [97, 98, 99] W ⟨knH_wf, inD_nil _ _⟩ h h1 h2 (by omega) (by omega) (by omega) (by omega) (by omega) (by omega) (by omega) (by decide) (by decide)).mono (fun e w' hh => by unfold ProPost at hh; rw [if_pos kn_may, if_pos kn_may] at hh; exact hh)))
  have HQ := Lib.hid (fun W A c (h : Rd W W.heap.size A 1 [97]) (h1 : 1 ≤ c) (h2 : c ≤ maxLen) => (show Calls Tryz.prog 17 #[.agg #[.int .u64 5, .int .u64 6], .agg #[.int .i64 0, .int .u8 0, .int .u8 0, .int .u8 0, .int .u8 0, .int .u8 0, .int .u8 0, .int .u8 0, .int .u8 0, .int .u8 0, .int .u8 0, .int .u8 0, .int .u8 0, .int .u8 0, .int .u8 0, .int .u8 0, .int .u8 0, .slice none 0 0, .int .i64 1, .bool false], .int .u64 7, .slice A 1 c] W (fun e w' => ∃ v, e = .returned (.tuple #[v, .int .i64 1]) ∧ Below W.heap.size W w') from
    (protect_any (fun _ => True) 5 6 7 knG Sl.nil [] A 1 c [97] W ⟨knG_wf, inD_nil _ _⟩ h h1 h2 (by omega) (by omega) (by omega) (by omega) (by omega) (by omega) (by omega) (by decide) (by decide)).mono (fun e w' hh => by unfold ProPost at hh; rw [kn_not] at hh; obtain ⟨v, h1, h2, h3⟩ := hh; exact ⟨v, h1, h3⟩)))
  have hun := unp_pack 5 6 7 knH [] [97, 98, 99] [] 6 true kn_may HN.zero_wf.tb HN.zero_wf.fb Byt.nil (by intro x hx; simp at hx; omega) (fun _ => rfl) kn_whole
  rw [List.append_nil] at hun
  obtain ⟨X, hX⟩ : ∃ X, packS 5 6 7 knH [] [97, 98, 99] = X := ⟨_, rfl⟩
  have hXl : X.length ≤ 1000000 := by
    rw [← hX]
    have hh := kn_may
    show (turnB _ _ _ _ _).length ≤ _
    rw [turnB_len]
    unfold bareS
    rw [List.length_append, List.length_append, beS_len, sealS_len]
    have hq := henc_100 knH [] (knH.w + ([97, 98, 99] : List Int).length + 8) (by simp)
    have h3 : ([97, 98, 99] : List Int).length = 3 := rfl
    rw [h3] at hq ⊢
    have h9 : knH.w.toNat = 2 := rfl
    rw [h9]
    omega
  rw [hX] at HP hun
  have HR := Lib.hid (fun W A c (h : Rd W W.heap.size A X.length X) (h1 : X.length ≤ c) (h2 : c ≤ maxLen) (h3 : A = none → c = 0) => (show Calls Tryz.prog 18 #[.agg #[.int .u64 5, .int .u64 6], .slice A X.length c, .int .u64 6, .bool true] W (fun e w' => ∃ d v, e = .returned (.tuple #[hdV knH d, .int .u64 7, v, .int .i64 0]) ∧ Own w' W.heap.size 5 v [97, 98, 99] ∧ Below W.heap.size W w') from
    (unprotect_any 5 6 6 true A X.length c X W h hXl h1 h2 h3 (by omega) (by omega) (by omega) (by omega) (by omega) (by omega)).mono (fun e w' hh => by unfold UnpPost at hh; rw [hun] at hh; obtain ⟨d, v, g1, g2, g3, g4, g5⟩ := hh; exact ⟨d, v, g1, g4, g5⟩)))
  obtain ⟨XL, hXL⟩ : ∃ l, X.length = l := ⟨_, rfl⟩
  rw [hXL] at HR
  have HXL := Lib.hid hXL
  clear hun hX hXl hXL
  have kc := fun (w : World) (C : Array Value) (n c : Nat) => Lib.run_convert_bytes_const (P := Tryz.prog) w 23 5 C n c Tryz.underlying23 Tryz.underlying5
  have hKK : At (w.alloc (.cells #[.int .u64 5, .int .u64 6] 51)) w.heap.size 51 [.int .u64 5, .int .u64 6] := At.new w 51 [.int .u64 5, .int .u64 6]
  have hb0 : Below w.heap.size w (w.alloc (.cells #[.int .u64 5, .int .u64 6] 51)) := (Below.refl _ _).alloc (Nat.le_refl _) _
  obtain ⟨w1, hw1⟩ : ∃ x, w.alloc (.cells #[.int .u64 5, .int .u64 6] 51) = x := ⟨_, rfl⟩
  rw [hw1] at hKK hb0
  have hbm : Below w1.heap.size w1 (w1.alloc (.cells #[.int .u8 97, .int .u8 98, .int .u8 99] 5 (3, 4))) := (Below.refl _ _).alloc (Nat.le_refl _) _
  have hrm : Rd (w1.alloc (.cells #[.int .u8 97, .int .u8 98, .int .u8 99] 5 (3, 4))) (w1.heap.size + 1) (some ⟨w1.heap.size, 0, none⟩) 3 [97, 98, 99] := Rd.litm w1 5 [97, 98, 99] (by intro x hx; simp at hx; omega) #[.int .u8 97, .int .u8 98, .int .u8 99] (3, 4) rfl
  have hsm : (w1.alloc (.cells #[.int .u8 97, .int .u8 98, .int .u8 99] 5 (3, 4))).heap.size = w1.heap.size + 1 := by simp
  rw [← hsm] at hrm
  obtain ⟨w2, hw2⟩ : ∃ x, w1.alloc (.cells #[.int .u8 97, .int .u8 98, .int .u8 99] 5 (3, 4)) = x := ⟨_, rfl⟩
  rw [hw2] at hrm hbm
  clear hsm
  go_enter Tryz.func14, Tryz.ntmps14
  go_wp2_with (first | ((with_reducible refine at_ldk ?_); refine ld_kt w.heap.size [.int .u64 5, .int .u64 6] (by rfl) hKK rfl ?_) | fail)
  refine (HP.out w2 _ 3 hrm (Nat.le_refl _) (by unfold maxLen; omega)).mono ?_
  rintro e w3 ⟨v3, rfl, ho3, hb3⟩
  obtain ⟨A3, c3, hv3, x1, x2, x3⟩ := ho3.open_n XL HXL.out
  have hA3 : A3 = none → c3 = 0 := by
    intro hh; subst hh
    rcases ho3.1.2 with ⟨hv, _⟩ | ⟨g, cap, cur, hv, _⟩
    · rw [hv3] at hv; injection hv with _ _ hv
    · rw [hv3] at hv; injection hv with hv; cases hv
  subst hv3
  have hb4 := (hb0.trans (hbm.mono hb0.size)).trans (hb3.mono (by have := hb0.size; have := hbm.size; omega))
  have hKK3 := (hKK.below hbm hKK.lt).below hb3 (by have := hKK.lt; have := hbm.size; omega)
  clear hw1 hw2 hrm hbm hb3 hb0 hKK
  go_wp2_with (first | ((with_reducible refine at_ldk ?_); refine ld_kt w.heap.size [.int .u64 5, .int .u64 6] (by rfl) hKK3 rfl ?_) | fail)
  refine (HR.out w3 _ c3 x3 x1 x2 hA3).mono ?_
  rintro e w5 ⟨d5, v5, rfl, ho5, hb5⟩
  have hKK5 := hKK3.below hb5 hKK3.lt
  have hb6 := hb4.trans (hb5.mono hb4.size)
  obtain ⟨A5, c5, hv5, _, _, x5⟩ := ho5.open_n 3 rfl
  subst hv5
  have hN5 : At (w5.alloc (.cells #[.int .i64 0, .int .u8 0, .int .u8 0, .int .u8 0, .int .u8 0, .int .u8 0, .int .u8 0, .int .u8 0, .int .u8 0, .int .u8 0, .int .u8 0, .int .u8 0, .int .u8 0, .int .u8 0, .int .u8 0, .int .u8 0, .int .u8 0, .slice none 0 0, .int .i64 0, .bool false] 32)) w5.heap.size 32 (hdL .zero .nil) := At.new w5 32 (hdL .zero .nil)
  have hbz : Below w5.heap.size w5 (w5.alloc (.cells #[.int .i64 0, .int .u8 0, .int .u8 0, .int .u8 0, .int .u8 0, .int .u8 0, .int .u8 0, .int .u8 0, .int .u8 0, .int .u8 0, .int .u8 0, .int .u8 0, .int .u8 0, .int .u8 0, .int .u8 0, .int .u8 0, .int .u8 0, .slice none 0 0, .int .i64 0, .bool false] 32)) := (Below.refl _ _).alloc (Nat.le_refl _) _
  have hvv : hdV knH d5 = .agg (hdL knH d5).toArray := rfl
  rw [hvv]
  have hGo : (hdL knH d5).all (·.oneCell') = true := rfl
  obtain ⟨G, hG⟩ : ∃ G, hdL knH d5 = G := ⟨_, rfl⟩
  have hGl : G.length = 20 := by rw [← hG]; rfl
  rw [hG] at hGo ⊢
  have HGL := Lib.hid hGl
  clear hvv hG hGl hb5 hKK3 ho5 ho3 hb4 x3
  go_wp2_with (first | ((with_reducible refine at_sth ?_); refine st_hd w5.heap.size (hdL .zero .nil) G (by rfl) (by rfl) hN5 rfl HGL.out hGo ?_; intro w6 hA6 hk6; have hbs := hk6.below hbz hbz.size (by intro j hj; subst hj; exact Nat.le_refl _); have hKK6 := hKK5.below hbs hKK5.lt; have hr6 := (x5.below hbs).more hbs.size; have hb7 := hb6.trans (hbs.mono hb6.size); clear hbs hbz hk6 hN5 hA6 hKK5 x5 hb6) | ((with_reducible refine at_ldk ?_); refine ld_kt w.heap.size [.int .u64 5, .int .u64 6] (by rfl) hKK6 rfl ?_) | fail)
  have hbm : Below w6.heap.size w6 (w6.alloc (.cells #[.int .u8 97] 5 (1, 2))) := (Below.refl _ _).alloc (Nat.le_refl _) _
  have hrm : Rd (w6.alloc (.cells #[.int .u8 97] 5 (1, 2))) (w6.heap.size + 1) (some ⟨w6.heap.size, 0, none⟩) 1 [97] := Rd.litm w6 5 [97] (by intro x hx; simp at hx; omega) #[.int .u8 97] (1, 2) rfl
  have hsm : (w6.alloc (.cells #[.int .u8 97] 5 (1, 2))).heap.size = w6.heap.size + 1 := by simp
  rw [← hsm] at hrm
  refine (HQ.out _ _ 1 hrm (Nat.le_refl _) (by unfold maxLen; omega)).mono ?_
  rintro e w8 ⟨v8, rfl, hb8⟩
  have hr8 := (((hr6.below hbm).more hbm.size).below hb8).more hb8.size
  have hb9 := (hb7.trans (hbm.mono hb7.size)).trans (hb8.mono (by have := hb7.size; have := hbm.size; omega))
  have t8 := run_text (P := Tryz.prog) (c := c5) hr8 23 5 9 Tryz.underlying23 Tryz.underlying5 Tryz.underlying9
  have hT : strOfNums [97, 98, 99] = { data := #[97, 98, 99] } := rfl
  rw [hT] at t8
  clear hr8 hb8 hbm hrm hr6 hsm hT kc
  go_wp2_with fail
  go_ret
  exact ⟨rfl, hb9⟩
end
section
set_option linter.unusedVariables false
set_option linter.unusedSimpArgs false
open Go.RowKit Go.ChangeShapes Go.WideShapes Go.Deep
theorem run_app_lit {P : Program} {w : World} (t ty e : TypeId) (i : TypeInfo) (ht : P.underlying t = some (.slice e)) (hi : P.info? e = some i) (hz : i.zero = some (.int .u8 0)) (hsize : i.size = 1) (hby : i.bytes = 1)
    (g n B B' : Nat) (lits : List Int) (hl : Rd w B (some ⟨g, 0, none⟩) n lits) (hn : 0 < n) (A : Option Addr) (m c : Nat) (news : List Int) (hr : Rd w B' A m news) (hB : B ≤ w.heap.size) (hlen : n + m ≤ 140737488355328) :
    ∃ A' c' w', (Builtin.append_ #[t, t] ty #[.slice (some ⟨g, 0, none⟩) n n, .slice A m c]).run P w = .ok (.slice A' (n + m) c') w' ∧ n + m ≤ c' ∧ c' ≤ maxLen ∧ A' ≠ none ∧ Rd w' w'.heap.size A' (n + m) (lits ++ news) ∧ Below w.heap.size w w' := by
  rcases Nat.eq_zero_or_pos m with h0 | h0
  · subst h0
    obtain rfl := hr.zero
    have hsrc : Src P i.size t (.slice A 0 c) 0 [] w := by
      cases A with
      | none => exact Src.ofNil w ht c
      | some a => exact Src.ofSlice w ht a 0 c [] (by simp) (fun j u h => by simp at h) (fun u h => by cases h)
    refine ⟨_, n, w, run_append_nothing w t t ty e i ht hi (some ⟨g, 0, none⟩) n n (Nat.le_refl _) (.slice A 0 c) hsrc, Nat.le_refl _, by unfold maxLen; omega, by simp, ?_, Below.refl _ _⟩
    rw [List.append_nil]
    exact hl.more hB
  · obtain ⟨a1, e1, hc1⟩ := hl.cells hn
    obtain ⟨a2, rfl, hc2⟩ := hr.cells h0
    have e1' : a1 = ⟨g, 0, none⟩ := by injection e1 with e1; exact e1.symm
    subst e1'
    obtain ⟨v', w', h1, h2, h3⟩ := run_append_arg_grows (P := P) w t ty e i (.int .u8 0) 1 1 ht hi hz hsize hby rfl (by decide) ⟨g, 0, none⟩ n n (lits.map (Value.int .u8)) (by simp [hl.1]) hc1 a2 m c (news.map (Value.int .u8)) (by simp [hr.1]) hc2 (by omega) (by unfold maxLen; omega) (by omega)
    have hown : Own w' w.heap.size e v' (lits ++ news) := ⟨by rw [List.map_append, List.length_append, hl.1, hr.1]; exact h2, hl.2.1.app hr.2.1⟩
    obtain ⟨g', c', _, rfl, _, _, _, _, x1, x2⟩ := hown.place (by rw [List.length_append, hl.1, hr.1]; omega)
    rw [List.length_append, hl.1, hr.1] at hown x1 h1
    obtain ⟨A9, c9, hv, _, _, hrd⟩ := hown.open_n (n + m) (by rw [List.length_append, hl.1, hr.1])
    injection hv with hv _ hvc
    subst hv; subst hvc
    exact ⟨_, _, w', h1, x1, x2, by simp, hrd, (Below.refl _ _).grown h3 (Nat.le_refl _) (fun k hk => by cases hk)⟩
theorem step_app_lit {P : Program} {ops : Array Oper} {o : Oper} {a : Act} {w : World} {K : Act → World → Prop} {Q : Exit → Act → World → Prop} {E : Prop} (hgd : Region.wanted o (yielded ops a.tmps) = true) (s x : Operand) (t : TypeId)
    (ho : o.op = .call { callee := .builtin .append, args := #[s, x], argTypes := #[t, t] })
    (e : TypeId) (i : TypeInfo) (ht : P.underlying t = some (.slice e)) (hi : P.info? e = some i) (hz : i.zero = some (.int .u8 0)) (hsize : i.size = 1) (hby : i.bytes = 1)
    (g n B B' : Nat) (lits : List Int) (hs : a.eval s = .slice (some ⟨g, 0, none⟩) n n) (hl : Rd w B (some ⟨g, 0, none⟩) n lits) (hn : 0 < n) (A : Option Addr) (m c : Nat) (news : List Int) (hx : a.eval x = .slice A m c) (hr : Rd w B' A m news) (hB : B ≤ w.heap.size) (hlen : n + m ≤ 140737488355328)
    (h : ∀ A' c' w', n + m ≤ c' → c' ≤ maxLen → A' ≠ none → Rd w' w'.heap.size A' (n + m) (lits ++ news) → Below w.heap.size w w' → K (a.put o.dst (.slice A' (n + m) c')) w') :
    if Region.wanted o (yielded ops a.tmps) = true then Oper.wp P o a w K Q else E := by
  rw [if_pos hgd]
  obtain ⟨A', c', w', h1, h2, h3, h4, h5, h6⟩ := run_app_lit (P := P) (w := w) t o.type e i ht hi hz hsize hby g n B B' lits hl hn A m c news hr hB hlen
  unfold Oper.wp
  simp [execOp, ho, resolve, invoke, builtin, hs, hx, h1, Result.andThen]
  exact h A' c' w' h2 h3 h4 h5 h6
end
end Go.Proofs.YtijjiifekilapaaGreat
