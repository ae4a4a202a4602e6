/-
  slices.Clone and slices.Delete (from the front) of rows of bytes.
-/
import Derived.Test.YtohahkjikhpamaaIc
import Derived.Test.YtohahkjikhpamaaProg
import Derived.Lib.Overlaps
import Derived.Lib.SliceRun
import Derived.BigQuiet
import Derived.Deep.RegionLaw
import Derived.Shelf.RegionOpenPlain
namespace Go.Proofs.Ytohahkjikhpamaa
set_option linter.unusedVariables false
set_option linter.unusedSimpArgs false
open Go.RowKit
theorem i8_info : (Try.prog.info? 5).map (fun i => (i.zero, i.size, i.bytes)) = some (some (.int .u8 0), 1, 1) := by kernel_rfl
theorem o8 : OneT Try.prog 26 5 (.int .u8 0) := by
  obtain ⟨i, hi, h⟩ : ∃ i, Try.prog.info? 5 = some i ∧ i.zero = some (.int .u8 0) ∧ i.size = 1 ∧ i.bytes = 1 := by
    have hI := i8_info
    cases hq : Try.prog.info? 5 with
    | none => rw [hq] at hI; cases hI
    | some i =>
      rw [hq] at hI
      simp only [Option.map_some, Option.some.injEq, Prod.mk.injEq] at hI
      exact ⟨i, rfl, hI⟩
  exact ⟨Try.underlying26, ⟨i, hi, h⟩, rfl, rfl⟩
theorem rd_src {w : World} {B n : Nat} {A : Option Addr} {bs : List Int} (h : Rd w B A n bs) : 0 < n → ∃ ad, A = some ad ∧ ∀ j u, (bs.map (Value.int .u8))[j]? = some u → w.cell? (ad.add j) = some u := fun h0 => h.cells h0
set_option maxRecDepth 100000 in
theorem clone8 (A : Option Addr) (n c : Nat) (bs : List Int) (w : World) (hr : Rd w w.heap.size A n bs) (hn : n ≤ 2000000) (hA : A = none → c = 0) :
    Calls Try.prog 41 #[.slice A n c] w fun e w' => ∃ v, e = .returned v ∧ Own w' w.heap.size 5 v bs ∧ Below w.heap.size w w' := by
  cases A with
  | none =>
    have h0 : n = 0 := by
      rcases Nat.eq_zero_or_pos n with h | h
      · exact h
      · obtain ⟨b, off, e, _⟩ := hr.2.2 h
        cases e
    subst h0
    obtain rfl := hA rfl
    obtain rfl := hr.zero
    clear hA
    have he := fun W : World => Lib.run_eql_slice_nil (P := Try.prog) W 26 5 none 0 0 0 0 Try.underlying26
    go_enter Try.func41, Try.ntmps41
    go_wp2
    go_ret
    exact ⟨_, rfl, Own.none_ _ _ _, Below.refl _ _⟩
  | some ad =>
    clear hA
    have he := fun W : World => Lib.run_eql_slice_nil (P := Try.prog) W 26 5 (some ad) n c 0 0 Try.underlying26
    have hb1 : Below w.heap.size w (w.alloc (.cells #[] 5)) := (Below.refl _ _).alloc (Nat.le_refl _) _
    have hr1 := hr.below hb1
    have hown : Ow (w.alloc (.cells #[] 5)) w.heap.size 5 (.slice (some ⟨w.heap.size, 0, none⟩) 0 0) [] := ⟨rfl, .inr ⟨_, 0, _, rfl, Nat.le_refl _, heap_alloc_new w _, Nat.le_refl _, by unfold maxLen; omega, rfl, rfl⟩⟩
    have hs1 : w.heap.size ≤ (w.alloc (.cells #[] 5)).heap.size := by simp
    have hsrc := rd_src hr1
    have hlen : (bs.map (Value.int .u8)).length = n := by rw [List.length_map]; exact hr.1
    have hone := oneCell_u8 bs
    have HB := Lib.hid hr.2.1
    clear hr hr1
    generalize hxs : bs.map (Value.int .u8) = xs at *
    have HX := Lib.hid hxs
    clear hxs
    go_enter Try.func41, Try.ntmps41
    go_wp2_with (at_builtin; refine wpList_app1 o8 rfl (.tmp 5) (.tmp 6) rfl w.heap.size _ [] rfl hown (some ad) n c rfl xs hlen hsrc hone (by simp; omega) hs1 ?_; intro v2 w2 hown2 hg2 hv2 _; have hb2 := hb1.grown hg2 hs1 (fun k hk => (ow_lt hown k hk).1); clear hown)
    go_ret
    exact ⟨_, rfl, ow_own (by rw [HX.out]; simpa using hown2) HB.out, hb2⟩
set_option maxHeartbeats 1000000 in
set_option maxRecDepth 100000 in
theorem del8 (base : Nat) (v : Value) (W : List Int) (k : Nat) (w : World) (hl : Own w base 5 v W) (hkn : k ≤ W.length) (hN : W.length ≤ 2000000) (hb : base ≤ w.heap.size) :
    Calls Try.prog 54 #[v, .int .i64 0, .int .i64 k] w fun e w' => ∃ v', e = .returned v' ∧ Own w' base 5 v' (W.drop k) ∧ Kept (fun b => v.ownBlock = some b) w w' ∧ ∀ j, v'.ownBlock = some j → v.ownBlock = some j := by
  have how := own_ow hl
  have HB := Lib.hid (hl.2.drop k)
  have hOL := Lib.hid hl
  obtain ⟨A, c, rfl, hnc, hcm, ho⟩ := ow_open how
  have hml : (W.map (Value.int .u8)).length = W.length := List.length_map ..
  rcases Nat.eq_zero_or_pos k with rfl | hk0
  · have hres : Own w base 5 (.slice A (W.map (Value.int .u8)).length c) (W.drop 0) := by rw [List.drop_zero]; exact hl
    have HR := Lib.hid hres
    clear hres hl
    have hcz : ((W.map (Value.int .u8)).length : Int) ≤ (c : Int) := by omega
    have hcm' : c ≤ 9223372036854775807 := by unfold maxLen at hcm; omega
    have hA : A = none → c = 0 := by
      rintro rfl
      rcases ho with ⟨_, h, _⟩ | ⟨g, cur, h, _⟩
      · exact h
      · cases h
    clear ho how hkn hOL HB
    generalize (W.map (Value.int .u8)).length = n at *
    clear hml
    cases A with
    | none =>
      obtain rfl := hA rfl
      obtain rfl : n = 0 := by omega
      go_enter Try.func54, Try.ntmps54
      go_wp2
      go_ret
      exact ⟨_, rfl, HR.out, Kept.refl _ _, fun j hj => hj⟩
    | some ad =>
      go_enter Try.func54, Try.ntmps54
      go_wp2
      go_ret
      exact ⟨_, rfl, HR.out, Kept.refl _ _, fun j hj => hj⟩
  · rcases ho with ⟨_, _, h⟩ | ⟨g, cur, rfl, hbg, hg, hA, hcl, hct⟩
    · simp at h; subst h; simp at hkn; omega
    have HL := Lib.hid (show (W.drop k).length = W.length - k from List.length_drop)
    have hown : Ow w base 5 (.slice (some ⟨g, 0, none⟩) 0 c) [] := by simpa using ow_cut how rfl (i := 0) (by omega)
    obtain ⟨X, hX⟩ : ∃ X, (W.drop k).map (Value.int .u8) = X := ⟨_, rfl⟩
    have hsrc : ∀ j u, X[j]? = some u → w.cell? ((⟨g, k, none⟩ : Addr).add j) = some u := fun j u hj => by
      rw [Addr.add_lit, hA.cell]
      rw [← hX, List.map_drop, List.getElem?_drop, ← hct, List.getElem?_take] at hj
      split at hj
      · exact hj
      · cases hj
    have hsl : X.length = W.length - k := by rw [← hX, List.length_map]; exact HL.out
    have hs1 : ∀ u ∈ X, u.oneCell' = true := fun u hu => by rw [← hX] at hu; exact oneCell_u8 _ u hu
    have HX := Lib.hid hX
    have hcm' : c ≤ 9223372036854775807 := by unfold maxLen at hcm; omega
    clear hl hct hX hOL how
    rw [hml] at hnc ⊢
    clear hml
    generalize W.length = n at *
    have hc0 : ¬ c = 0 := by omega
    have hcz : (k : Int) ≤ (c : Int) := by omega
    have hnz : (n : Int) ≤ (c : Int) := by omega
    have hkz : (k : Int) ≤ (n : Int) := by omega
    have hk1 : ¬ (0 : Int) = (k : Int) := by omega
    have hcq : ¬ c = n - k := by omega
    have mixed : Try.prog.follows .mixedOrders = true := by kernel_rfl
    have hown' : Ow w.drew base 5 (.slice (some ⟨g, 0, none⟩) 0 c) [] := ow_keep hown fun _ _ => rfl
    have hb' : base ≤ w.drew.heap.size := hb
    have hsrc' : ∀ j u, X[j]? = some u → w.drew.cell? ((⟨g, k, none⟩ : Addr).add j) = some u := hsrc
    clear hown hsrc
    have HT : Hid (∀ (v2 : Value) (w2 : World), Ow w2 base 5 v2 ([] ++ X) → (∀ g' n' c', Value.slice (some ⟨g, 0, none⟩) 0 c = .slice (some ⟨g', 0, none⟩) n' c' → n' + (n - k) ≤ c' → v2 = .slice (some ⟨g', 0, none⟩) (n' + (n - k)) c') → ∃ cur3, v2 = .slice (some ⟨g, 0, none⟩) (n - k) c ∧ At w2 g 5 cur3 ∧ Hid (cur3.length = c) ∧ Hid (cur3.take (n - k) = X)) := Lib.hid (by
      intro v2 w2 h1 h2
      have e := h2 g 0 c rfl (by omega)
      rw [Nat.zero_add] at e
      subst e
      obtain ⟨A3, c3, e, _, _, h3⟩ := ow_open h1
      rw [List.nil_append] at *
      injection e with e1 e2 e3
      subst e1; subst e3
      rcases h3 with ⟨h, _⟩ | ⟨g3, cur3, h, _, _, hA3, hl3, ht3⟩
      · cases h
      · injection h with h
        injection h with h
        subst h
        exact ⟨cur3, rfl, hA3, Lib.hid hl3, Lib.hid (by rw [← hsl]; exact ht3)⟩)
    have HF : Hid (∀ (w3 w4 : World) (cur3 : List Value) (N : Nat), At w3 g 5 (splice cur3 (n - k) (List.replicate N (Value.int .u8 0))) → N = n - (n - k) → cur3.length = c → cur3.take (n - k) = X → Own w3 base 5 (.slice (some ⟨g, 0, none⟩) (n - k) c) (W.drop k)) := Lib.hid (by
      intro w3 w4 cur3 N h1 hN h2 h3
      refine Own.of_block HB.out (by rw [HL.out]) h1 hbg (by omega) hcm (by simp only [List.size_toArray]; rw [length_splice _ _ _ (by simp; omega)]; exact h2) ?_
      rw [HX.out, ← h3]
      simp only [List.toList_toArray]
      unfold splice
      rw [List.take_append_of_le_length (by simp; omega), List.take_take]
      congr 1
      omega)
    by_cases hck : c = k
    · subst hck
      obtain rfl : n = c := by omega
      obtain rfl : X = [] := List.eq_nil_of_length_eq_zero (by omega)
      rw [Nat.sub_self] at HT HF hsl
      have hcn : ¬ n = 0 := by omega
      clear hcq hsrc'
      go_enter Try.func54, Try.ntmps54
      go_wp2_with fail
      go_region_law_o (refine step_app1 o8 rfl (.tmp 22) (.tmp 25) rfl base (.slice (some ⟨g, 0, none⟩) 0 n) [] (by simp [Act.eval, Act.put]) hown' (some ⟨g, 0, none⟩) 0 0 (by simp [Act.eval, Act.put]) [] rfl (fun h => absurd h (by omega)) hs1 (by simp) hb' ?_; intro v2 w2 hown2 hg2 hv2 hin2; obtain ⟨cur3, rfl, hA3, HL3, HT3⟩ := HT.out v2 w2 hown2 hin2; clear hown2 hin2 hv2)
      go_wp2_with (refine wpList_clear1 o8 rfl (.tmp 31) rfl (some ⟨g, 0, none⟩) n n g 0 cur3 _ rfl hA3 (fun _ => rfl) (by have := HL3.out; omega) ?_; intro w3 hA4 hk4)
      go_ret
      exact ⟨_, rfl, HF.out w3 w3 cur3 _ hA4 rfl HL3.out HT3.out, (Kept.from_drew (grown_kept hg2)).trans (hk4.mono fun j hj => .inl (by subst hj; rfl)), fun k hk => hk⟩
    · go_enter Try.func54, Try.ntmps54
      go_wp2_with fail
      go_region_law_o (refine step_app1 o8 rfl (.tmp 22) (.tmp 25) rfl base (.slice (some ⟨g, 0, none⟩) 0 c) [] (by simp [Act.eval, Act.put]) hown' (some ⟨g, k, none⟩) (n - k) (c - k) (by simp [Act.eval, Act.put]) X hsl (fun _ => ⟨_, rfl, hsrc'⟩) hs1 (by simp; omega) hb' ?_; intro v2 w2 hown2 hg2 hv2 hin2; obtain ⟨cur3, rfl, hA3, HL3, HT3⟩ := HT.out v2 w2 hown2 hin2; clear hown2 hin2 hv2)
      have hnkz : ((n - k : Nat) : Int) ≤ (n : Int) := by omega
      go_wp2_with (refine wpList_clear1 o8 rfl (.tmp 31) rfl (some ⟨g, n - k, none⟩) (n - (n - k)) (c - (n - k)) g (n - k) cur3 _ rfl hA3 (fun _ => rfl) (by have := HL3.out; omega) ?_; intro w3 hA4 hk4)
      go_ret
      exact ⟨_, rfl, HF.out w3 w3 cur3 _ hA4 rfl HL3.out HT3.out, (Kept.from_drew (grown_kept hg2)).trans (hk4.mono fun j hj => .inl (by subst hj; rfl)), fun k hk => hk⟩
end Go.Proofs.Ytohahkjikhpamaa
