/-
  Set's methods that write: Clone (of Ranges), New, replace.
-/
import Derived.Test.YtahalbmcijbbmaaMq1
import Derived.Test.YtahalbmcijbbmaaQm
namespace Go.Proofs.Ytahalbmcijbbmaa
section
set_option linter.unusedVariables false
set_option linter.unusedSimpArgs false
open Go.RowKit
theorem new_any (m : Int) (w : World) (hm : -9223372036854775808 ≤ m ∧ m < 9223372036854775808) :
    Calls Try.prog 26 #[.int .i64 m] w fun e w' => e = .returned (.pointer (some ⟨w.heap.size, 0, none⟩)) ∧ SetV w' w.heap.size w.heap.size (max m 1) (.slice none 0 0) [] ∧ Below w.heap.size w w' := by
  have hA := fun x : Int => At.new w 86 [.int .i64 x, .slice none 0 0]
  have key : ∀ x : Int, SetV (w.alloc (.cells #[.int .i64 x, .slice none 0 0] 86)) w.heap.size w.heap.size x (.slice none 0 0) [] ∧ Below w.heap.size w (w.alloc (.cells #[.int .i64 x, .slice none 0 0] 86)) :=
    fun x => ⟨⟨hA x, OwnL.nil_ _ _, (by intro h; cases h), Nat.le_refl _⟩, (Below.refl _ _).alloc (Nat.le_refl _) _⟩
  clear hA
  rcases Int.lt_or_le m 1 with h | h
  · rw [Int.max_eq_right (Int.le_of_lt h)]
    have HK := Lib.hid (key 1)
    clear key
    go_enter Try.func26, Try.ntmps26
    go_wp2
    all_goals go_ret
    all_goals exact ⟨rfl, HK.out⟩
  · rw [Int.max_eq_left h]
    have HK := Lib.hid (key m)
    clear key
    go_enter Try.func26, Try.ntmps26
    go_wp2
    all_goals go_ret
    all_goals exact ⟨rfl, HK.out⟩
/-- What a call that changes a set leaves. -/
def SetPost (r : Value) (base p : Nat) (most : Int) (v : Value) (l' : RL) (w : World) (e : Ending) (w' : World) : Prop :=
  e = .returned r ∧ ∃ v', SetV w' base p most v' l' ∧ Kept (fun b => b = p ∨ v.ownBlock = some b) w w' ∧ ∀ k, v'.ownBlock = some k → v.ownBlock = some k ∨ w.heap.size ≤ k
theorem SetV.store {w w' : World} {base p : Nat} {most : Int} {v v' : Value} {l l' : RL} (h : SetV w base p most v l) (hl : OwnL w' base v' l') (hk : Kept (fun b => v.ownBlock = some b) w w') (hv : ∀ k, v'.ownBlock = some k → v.ownBlock = some k ∨ w.heap.size ≤ k) :
    SetV (w'.setCell ⟨p, 1, none⟩ v') base p most v' l' := by
  have hne : v'.ownBlock ≠ some p := fun e => by
    rcases hv p e with h1 | h1
    · exact h.ne h1
    · have := h.at_.lt
      omega
  refine ⟨(h.at_.kept hk h.ne).set 1 v', hl.keep fun k hk => Below.heap_setCell _ _ _ _ ?_, hne, h.bp⟩
  rintro rfl
  exact hne hk
set_option maxHeartbeats 1000000 in
set_option maxRecDepth 100000 in
theorem replace_any (base basev p : Nat) (most : Int) (v vv : Value) (l rs : RL) (i j : Nat) (w : World) (hs : SetV w base p most v l) (hr : OwnL w basev vv rs) (hne : ∀ k, v.ownBlock = some k → vv.ownBlock ≠ some k)
    (hij : i ≤ j) (hj : j ≤ l.length) (hN : l.length + rs.length ≤ 2000000) (hb : base ≤ w.heap.size) (hm : 1 ≤ most ∧ most < 9223372036854775808) :
    Calls Try.prog 58 #[.pointer (some ⟨p, 0, none⟩), .int .i64 i, .int .i64 j, vv] w (SetPost (.tuple #[]) base p most v (lst most (l.take i ++ rs ++ l.drop j)) w) := by
  have HR := Lib.hid (lreplace_any base basev v vv l rs i j w hs.own hr hne hij hj hN hb)
  have HS := Lib.hid hs
  have hcv : w.cell? ⟨p, 1, none⟩ = some v := by rw [hs.at_.cell]; rfl
  have hpl := hs.at_.lt
  have hL : (l.take i ++ rs ++ l.drop j).length ≤ 2000000 := by simp; omega
  have HL := Lib.hid hL
  clear hs hr hne hL
  generalize hX : l.take i ++ rs ++ l.drop j = X at *
  clear hX
  go_enter Try.func58, Try.ntmps58
  go_wp2_with (go_at_call 66; refine HR.out.mono ?_; rintro e w2 ⟨v2, rfl, hO2, hK2, hv2⟩; obtain ⟨A2, c2, rfl, hn2, hcm2⟩ := hO2.shape; have hs2 := HS.out.store hO2 hK2 hv2; have hp2 := HS.out.at_.kept hK2 HS.out.ne; have hc2 : w2.cell? ⟨p, 1, none⟩ = some v := (by rw [hp2.cell]; rfl); have hf2 := hp2.frozen 1; have HP2 := Lib.hid hp2; clear hp2)
  have hK3 := (hK2.mono (S' := fun b => b = p ∨ v.ownBlock = some b) fun b h => .inl (.inr h)).setCell (p := ⟨p, 1, none⟩) (.inl (.inl rfl)) (.slice A2 X.length c2)
  generalize World.setCell w2 _ _ = W at *
  have hcs := hs2.at_.cell 1
  have hcm := hs2.at_.cell 0
  simp at hcs hcm
  have HL2 := HL.out
  have HK3 := Lib.hid hK3
  have HS2 := Lib.hid hs2
  have HV2 := Lib.hid hv2
  clear hK3 hs2 hv2 hO2 hK2 hc2 hf2
  generalize hXl : X.length = n at *
  have HXL := Lib.hid hXl
  clear hXl
  have hov : IntKind.i64.wrap ((n : Int) - most) = (n : Int) - most := by rw [IntKind.wrap_i64]; omega
  go_quiet (fail)
  generalize hW : World.drewN W _ = W3
  have hs3 : SetV W3 base p most (.slice A2 n c2) X := by subst hW; exact HS2.out.kept ((Kept.refl (fun _ => False) _).drewN _) (fun h => h) (fun _ _ h => h)
  have hk3 : Kept (fun b => b = p ∨ v.ownBlock = some b) w W3 := by subst hW; exact HK3.out.drewN _
  clear hW hcs hcm HS2 HK3
  have hcs := hs3.at_.cell 1
  have hcm := hs3.at_.cell 0
  simp at hcs hcm
  have HS2 := Lib.hid hs3
  have HK3 := Lib.hid hk3
  have hb3 : base ≤ W3.heap.size := Nat.le_trans hb hk3.size
  clear hs3 hk3
  by_cases hlt : (most : Int) < (n : Int)
  · obtain ⟨k, hk⟩ : ∃ k : Nat, (n : Int) - most = (k : Int) := ⟨((n : Int) - most).toNat, by omega⟩
    rw [hk] at hov ⊢
    have HD := Lib.hid (ldel_any base (.slice A2 n c2) X k W3 HS2.out.own (by omega) (by rw [HXL.out]; omega) (by rw [HXL.out]; omega) hb3)
    have hkp : (0 : Int) < (k : Int) := by omega
    have HK := Lib.hid hk
    clear hk hov
    go_wp2_with (go_at_call 67; refine HD.out.mono ?_; rintro e w4 ⟨v4, rfl, hO4, hK4, hv4⟩; obtain ⟨A4, c4, rfl, hn4, hcm4⟩ := hO4.shape; have hs4 := HS2.out.store hO4 hK4 hv4; rw [List.length_drop] at hs4 hv4; have hp4 := HS2.out.at_.kept hK4 HS2.out.ne; have hc4 : w4.cell? ⟨p, 1, none⟩ = some (.slice A2 n c2) := (by rw [hp4.cell]; rfl); have hf4 := hp4.frozen 1; clear hp4; have HS4 := Lib.hid hs4; clear hs4; have HK4 := Lib.hid hK4; clear hK4; have HV4 := Lib.hid hv4; clear hv4; have HO4 := Lib.hid hO4; clear hO4)
    go_end0
    have e : lst most X = X.drop k := by
      unfold lst
      rw [HXL.out, show n - (max most 1).toNat = k by have := HK.out; omega]
    rw [e]
    refine ⟨rfl, _, HS4.out, (HK3.out.trans' HK4.out fun j hj => ?_).setCell (.inl (.inl rfl)) _, fun j hj => ?_⟩
    · rcases HV2.out j hj with h | h
      · exact .inl (.inr h)
      · exact .inr h
    · rcases HV4.out j hj with h | h
      · exact HV2.out j h
      · exact .inr (Nat.le_trans HK3.out.size h)
  · have hpos : ¬ (0 : Int) < (n : Int) - most := by omega
    go_wp2
    go_end0
    have e : lst most X = X := lst_small (by rw [HXL.out]; omega)
    rw [e]
    exact ⟨rfl, _, HS2.out, HK3.out, HV2.out⟩
end
section
set_option linter.unusedVariables false
set_option linter.unusedSimpArgs false
open Go.RowKit
section
variable {w : World} {base p : Nat} {most : Int} {v : Value} {l : RL}
theorem SetV.c1 (h : SetV w base p most v l) : w.cell? ⟨p, 1, none⟩ = some v := by rw [h.at_.cell]; rfl
theorem SetV.c0 (h : SetV w base p most v l) : w.cell? ⟨p, 0, none⟩ = some (.int .i64 most) := by rw [h.at_.cell]; rfl
theorem SetV.el {g n c : Nat} (h : SetV w base p most (.slice (some ⟨g, 0, none⟩) n c) l) {i : Nat} {r : Int × Int} (hi : l[i]? = some r) : w.cell? ⟨g, i * 2, none⟩ = some (.int .u64 r.1) ∧ w.cell? ⟨g, i * 2 + 1, none⟩ = some (.int .u64 r.2) := by
  obtain ⟨g', c', e, _, _, h1, h2⟩ := h.own.cell hi
  injection e with e _ _
  injection e with e
  injection e with e
  subst e
  exact ⟨h1, h2⟩
theorem SetV.some_ (h : SetV w base p most v l) (h0 : 0 < l.length) : ∃ g c, v = .slice (some ⟨g, 0, none⟩) l.length c ∧ l.length ≤ c ∧ c ≤ maxLen := by
  obtain ⟨A, c, rfl, h1, h2⟩ := h.own.shape
  obtain ⟨g, c', e, _⟩ := h.own.cell (List.getElem?_eq_getElem h0)
  injection e with e1 _ e3
  subst e1; subst e3
  exact ⟨g, c, rfl, h1, h2⟩
end
set_option maxRecDepth 100000 in
theorem has_any' (base p : Nat) (most : Int) (v : Value) (l : RL) (w : World) (hs : SetV w base p most v l) (hn : l.length ≤ 2000000) (hg : Gd l) (x : Int) : Calls Try.prog 77 #[.pointer (some ⟨p, 0, none⟩), .int .u64 x] w (SaysB (hasL l x) w) := by
  obtain ⟨A, B, e, ha, hb⟩ := split_at (fun r => decide (x < r.2)) l (hg.mono _ fun a b h1 h2 h3 h4 => by unfold OkR at *; simp at *; omega)
  have ha' : ∀ r ∈ A, r.2 ≤ x := fun r hr => by have := ha r hr; simp at this; exact this
  have hb' : ∀ r ∈ B, x < r.2 := fun r hr => by have := hb r hr; simpa using this
  have HE := Lib.hid (ends_any p base most v l x A.length w hs (by omega) (by rw [e]; simp) (fun t r ht hr => ha' r (idx_left (e ▸ hr) ht)) (fun t r ht hr => hb' r (idx_right (e ▸ hr) ht)))
  have HH := Lib.hid (has_at hg e ha' hb')
  clear ha hb ha' hb'
  have HS := Lib.hid hs
  cases B with
  | nil =>
    obtain ⟨Av, c, rfl, _, _⟩ := hs.own.shape
    clear hs
    have hk : A.length = l.length := by rw [e]; simp
    rw [hk] at HE
    clear hk
    rw [HH.out]
    clear HH e
    unfold headLe
    simp only
    generalize l.length = n at *
    go_enter Try.func77, Try.ntmps77
    go_wp2_with (go_at_call 55; refine HE.out.mono ?_; rintro e w2 ⟨rfl, hB⟩; have hc := (HS.out.below hB).c1)
    go_ret
    exact ⟨by first | rfl | simp, hB⟩
  | cons r t =>
    have hi : l[A.length]? = some r := by rw [e, List.getElem?_append_right (Nat.le_refl _), Nat.sub_self]; rfl
    have hlt := (List.getElem?_eq_some_iff.1 hi).1
    obtain ⟨g, c, rfl, hnc, _⟩ := hs.some_ (by omega)
    clear hs
    have HI := Lib.hid hi
    clear hi
    rw [HH.out]
    clear HH e
    unfold headLe
    simp only
    generalize A.length = k at *
    have hkz : (k : Int) < (l.length : Nat) := by omega
    generalize l.length = n at *
    go_enter Try.func77, Try.ntmps77
    go_wp2_with (go_at_call 55; refine HE.out.mono ?_; rintro e w2 ⟨rfl, hB⟩; have hs2 := HS.out.below hB; have hc := hs2.c1; have he := (hs2.el HI.out).1; clear hs2)
    go_ret
    exact ⟨by first | rfl | simp, hB⟩
end
end Go.Proofs.Ytahalbmcijbbmaa
