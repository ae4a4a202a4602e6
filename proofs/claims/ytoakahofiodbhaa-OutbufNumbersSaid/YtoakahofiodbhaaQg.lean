/-
  Set's methods that read: All, Len, Copy, Has, Count, Largest.
-/
import Derived.Test.YtoakahofiodbhaaQf
namespace Go.Proofs.Ytoakahofiodbhaa
set_option linter.unusedVariables false
set_option linter.unusedSimpArgs false
open Go.RowKit
section
variable {w : World} {base p : Nat} {most : Int} {v : Value} {l : RL}
theorem SetV.c1 (h : SetV w base p most v l) : w.cell? ⟨p, 1, none⟩ = some v := by rw [h.at_.cell]; rfl
theorem SetV.c0 (h : SetV w base p most v l) : w.cell? ⟨p, 0, none⟩ = some (.int .i64 most) := by rw [h.at_.cell]; rfl
theorem SetV.el {g n c : Nat} (h : SetV w base p most (.slice (some ⟨g, 0, none⟩) n c) l) {i : Nat} {r : Int × Int} (hi : l[i]? = some r) : w.cell? ⟨g, i * 2, none⟩ = some (.int .u64 r.1) ∧ w.cell? ⟨g, i * 2 + 1, none⟩ = some (.int .u64 r.2) := by
  obtain ⟨g', c', e, _, _, h1, h2⟩ := h.own.cell hi
  injection e with e _ _
  injection e with e
  injection e with e
  subst e
  exact ⟨h1, h2⟩
theorem SetV.some_ (h : SetV w base p most v l) (h0 : 0 < l.length) : ∃ g c, v = .slice (some ⟨g, 0, none⟩) l.length c ∧ l.length ≤ c ∧ c ≤ maxLen := by
  obtain ⟨A, c, rfl, h1, h2⟩ := h.own.shape
  obtain ⟨g, c', e, _⟩ := h.own.cell (List.getElem?_eq_getElem h0)
  injection e with e1 _ e3
  subst e1; subst e3
  exact ⟨g, c, rfl, h1, h2⟩
end
set_option maxRecDepth 100000 in
theorem all_any' (base p : Nat) (most : Int) (v : Value) (l : RL) (w : World) (hs : SetV w base p most v l) (hn : l.length ≤ 2000000) : Calls Try.prog 40 #[.pointer (some ⟨p, 0, none⟩)] w fun e w' => ∃ v', e = .returned v' ∧ OwnL w' w.heap.size v' l ∧ Below w.heap.size w w' := by
  have HC := Lib.hid (lclone_any base v l w hs.own hn)
  have hc := hs.c1
  clear hs
  go_enter Try.func40, Try.ntmps40
  go_wp2_with (go_at_call 50; refine HC.out.mono ?_; rintro e w2 ⟨v2, rfl, hO2, hB2⟩)
  go_ret
  exact ⟨_, rfl, hO2, hB2⟩
theorem len_any' (base p : Nat) (most : Int) (v : Value) (l : RL) (w : World) (hs : SetV w base p most v l) : Calls Try.prog 39 #[.pointer (some ⟨p, 0, none⟩)] w fun e w' => e = .returned (.int .i64 (l.length : Nat)) ∧ w' = w := by
  obtain ⟨A, c, rfl, _, _⟩ := hs.own.shape
  have hc := hs.c1
  clear hs
  generalize l.length = n at *
  go_enter Try.func39, Try.ntmps39
  go_wp2
  go_ret
  exact ⟨rfl, rfl⟩
set_option maxRecDepth 100000 in
theorem has_any' (base p : Nat) (most : Int) (v : Value) (l : RL) (w : World) (hs : SetV w base p most v l) (hn : l.length ≤ 2000000) (hg : Gd l) (x : Int) : Calls Try.prog 47 #[.pointer (some ⟨p, 0, none⟩), .int .u64 x] w (SaysB (hasL l x) w) := by
  obtain ⟨A, B, e, ha, hb⟩ := split_at (fun r => decide (x < r.2)) l (hg.mono _ fun a b h1 h2 h3 h4 => by unfold OkR at *; simp at *; omega)
  have ha' : ∀ r ∈ A, r.2 ≤ x := fun r hr => by have := ha r hr; simp at this; exact this
  have hb' : ∀ r ∈ B, x < r.2 := fun r hr => by have := hb r hr; simpa using this
  have HE := Lib.hid (ends_any p base most v l x A.length w hs (by omega) (by rw [e]; simp) (fun t r ht hr => ha' r (idx_left (e ▸ hr) ht)) (fun t r ht hr => hb' r (idx_right (e ▸ hr) ht)))
  have HH := Lib.hid (has_at hg e ha' hb')
  clear ha hb ha' hb'
  have HS := Lib.hid hs
  cases B with
  | nil =>
    obtain ⟨Av, c, rfl, _, _⟩ := hs.own.shape
    clear hs
    have hk : A.length = l.length := by rw [e]; simp
    rw [hk] at HE
    clear hk
    rw [HH.out]
    clear HH e
    unfold headLe
    simp only
    generalize l.length = n at *
    go_enter Try.func47, Try.ntmps47
    go_wp2_with (go_at_call 41; refine HE.out.mono ?_; rintro e w2 ⟨rfl, hB⟩; have hc := (HS.out.below hB).c1)
    go_ret
    exact ⟨by first | rfl | simp, hB⟩
  | cons r t =>
    have hi : l[A.length]? = some r := by rw [e, List.getElem?_append_right (Nat.le_refl _), Nat.sub_self]; rfl
    have hlt := (List.getElem?_eq_some_iff.1 hi).1
    obtain ⟨g, c, rfl, hnc, _⟩ := hs.some_ (by omega)
    clear hs
    have HI := Lib.hid hi
    clear hi
    rw [HH.out]
    clear HH e
    unfold headLe
    simp only
    generalize A.length = k at *
    have hkz : (k : Int) < (l.length : Nat) := by omega
    generalize l.length = n at *
    go_enter Try.func47, Try.ntmps47
    go_wp2_with (go_at_call 41; refine HE.out.mono ?_; rintro e w2 ⟨rfl, hB⟩; have hs2 := HS.out.below hB; have hc := hs2.c1; have he := (hs2.el HI.out).1; clear hs2)
    go_ret
    exact ⟨by first | rfl | simp, hB⟩
def lastV (l : RL) : Array Value := match l.getLast? with | none => #[.int .u64 0, .bool false] | some r => #[.int .u64 (r.2 - 1), .bool true]
end Go.Proofs.Ytoakahofiodbhaa
