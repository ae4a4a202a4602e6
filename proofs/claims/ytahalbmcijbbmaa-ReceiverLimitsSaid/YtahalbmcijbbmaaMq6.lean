/-
  slices.Clone and slices.Delete (from the front) of rows of bytes.
-/
import Derived.Test.YtahalbmcijbbmaaIc
import Derived.Test.YtahalbmcijbbmaaProg
import Derived.Lib.Overlaps
import Derived.Lib.SliceRun
import Derived.BigQuiet
import Derived.Deep.RegionLaw
import Derived.Shelf.RegionOpenPlain
import Derived.Test.YtahalbmcijbbmaaMq5
import Derived.Test.YtahalbmcijbbmaaMq2
import Derived.BigRegion
import Derived.Deep.RegionHeld3
namespace Go.Proofs.Ytahalbmcijbbmaa
section
set_option linter.unusedVariables false
set_option linter.unusedSimpArgs false
open Go.RowKit
theorem i8_info : (Try.prog.info? 5).map (fun i => (i.zero, i.size, i.bytes)) = some (some (.int .u8 0), 1, 1) := by kernel_rfl
theorem o8 : OneT Try.prog 34 5 (.int .u8 0) := by
  obtain ⟨i, hi, h⟩ : ∃ i, Try.prog.info? 5 = some i ∧ i.zero = some (.int .u8 0) ∧ i.size = 1 ∧ i.bytes = 1 := by
    have hI := i8_info
    cases hq : Try.prog.info? 5 with
    | none => rw [hq] at hI; cases hI
    | some i =>
      rw [hq] at hI
      simp only [Option.map_some, Option.some.injEq, Prod.mk.injEq] at hI
      exact ⟨i, rfl, hI⟩
  exact ⟨Try.underlying34, ⟨i, hi, h⟩, rfl, rfl⟩
theorem rd_src {w : World} {B n : Nat} {A : Option Addr} {bs : List Int} (h : Rd w B A n bs) : 0 < n → ∃ ad, A = some ad ∧ ∀ j u, (bs.map (Value.int .u8))[j]? = some u → w.cell? (ad.add j) = some u := fun h0 => h.cells h0
set_option maxRecDepth 100000 in
theorem clone8 (A : Option Addr) (n c : Nat) (bs : List Int) (w : World) (hr : Rd w w.heap.size A n bs) (hn : n ≤ 2000000) (hA : A = none → c = 0) :
    Calls Try.prog 35 #[.slice A n c] w fun e w' => ∃ v, e = .returned v ∧ Own w' w.heap.size 5 v bs ∧ Below w.heap.size w w' := by
  cases A with
  | none =>
    have h0 : n = 0 := by
      rcases Nat.eq_zero_or_pos n with h | h
      · exact h
      · obtain ⟨b, off, e, _⟩ := hr.2.2 h
        cases e
    subst h0
    obtain rfl := hA rfl
    obtain rfl := hr.zero
    clear hA
    have he := fun W : World => Lib.run_eql_slice_nil (P := Try.prog) W 34 5 none 0 0 0 0 Try.underlying34
    go_enter Try.func35, Try.ntmps35
    go_wp2
    go_ret
    exact ⟨_, rfl, Own.none_ _ _ _, Below.refl _ _⟩
  | some ad =>
    clear hA
    have he := fun W : World => Lib.run_eql_slice_nil (P := Try.prog) W 34 5 (some ad) n c 0 0 Try.underlying34
    have hb1 : Below w.heap.size w (w.alloc (.cells #[] 5)) := (Below.refl _ _).alloc (Nat.le_refl _) _
    have hr1 := hr.below hb1
    have hown : Ow (w.alloc (.cells #[] 5)) w.heap.size 5 (.slice (some ⟨w.heap.size, 0, none⟩) 0 0) [] := ⟨rfl, .inr ⟨_, 0, _, rfl, Nat.le_refl _, heap_alloc_new w _, Nat.le_refl _, by unfold maxLen; omega, rfl, rfl⟩⟩
    have hs1 : w.heap.size ≤ (w.alloc (.cells #[] 5)).heap.size := by simp
    have hsrc := rd_src hr1
    have hlen : (bs.map (Value.int .u8)).length = n := by rw [List.length_map]; exact hr.1
    have hone := oneCell_u8 bs
    have HB := Lib.hid hr.2.1
    clear hr hr1
    generalize hxs : bs.map (Value.int .u8) = xs at *
    have HX := Lib.hid hxs
    clear hxs
    go_enter Try.func35, Try.ntmps35
    go_wp2_with (at_builtin; refine wpList_app1 o8 rfl (.tmp 5) (.tmp 6) rfl w.heap.size _ [] rfl hown (some ad) n c rfl xs hlen hsrc hone (by simp; omega) hs1 ?_; intro v2 w2 hown2 hg2 hv2 _; have hb2 := hb1.grown hg2 hs1 (fun k hk => (ow_lt hown k hk).1); clear hown)
    go_ret
    exact ⟨_, rfl, ow_own (by rw [HX.out]; simpa using hown2) HB.out, hb2⟩
set_option maxHeartbeats 1000000 in
set_option maxRecDepth 100000 in
theorem del8 (base : Nat) (v : Value) (W : List Int) (k : Nat) (w : World) (hl : Own w base 5 v W) (hkn : k ≤ W.length) (hN : W.length ≤ 2000000) (hb : base ≤ w.heap.size) :
    Calls Try.prog 36 #[v, .int .i64 0, .int .i64 k] w fun e w' => ∃ v', e = .returned v' ∧ Own w' base 5 v' (W.drop k) ∧ Kept (fun b => v.ownBlock = some b) w w' ∧ ∀ j, v'.ownBlock = some j → v.ownBlock = some j := by
  have how := own_ow hl
  have HB := Lib.hid (hl.2.drop k)
  have hOL := Lib.hid hl
  obtain ⟨A, c, rfl, hnc, hcm, ho⟩ := ow_open how
  have hml : (W.map (Value.int .u8)).length = W.length := List.length_map ..
  rcases Nat.eq_zero_or_pos k with rfl | hk0
  · have hres : Own w base 5 (.slice A (W.map (Value.int .u8)).length c) (W.drop 0) := by rw [List.drop_zero]; exact hl
    have HR := Lib.hid hres
    clear hres hl
    have hcz : ((W.map (Value.int .u8)).length : Int) ≤ (c : Int) := by omega
    have hcm' : c ≤ 9223372036854775807 := by unfold maxLen at hcm; omega
    have hA : A = none → c = 0 := by
      rintro rfl
      rcases ho with ⟨_, h, _⟩ | ⟨g, cur, h, _⟩
      · exact h
      · cases h
    clear ho how hkn hOL HB
    generalize (W.map (Value.int .u8)).length = n at *
    clear hml
    cases A with
    | none =>
      obtain rfl := hA rfl
      obtain rfl : n = 0 := by omega
      go_enter Try.func36, Try.ntmps36
      go_wp2
      go_ret
      exact ⟨_, rfl, HR.out, Kept.refl _ _, fun j hj => hj⟩
    | some ad =>
      go_enter Try.func36, Try.ntmps36
      go_wp2
      go_ret
      exact ⟨_, rfl, HR.out, Kept.refl _ _, fun j hj => hj⟩
  · rcases ho with ⟨_, _, h⟩ | ⟨g, cur, rfl, hbg, hg, hA, hcl, hct⟩
    · simp at h; subst h; simp at hkn; omega
    have HL := Lib.hid (show (W.drop k).length = W.length - k from List.length_drop)
    have hown : Ow w base 5 (.slice (some ⟨g, 0, none⟩) 0 c) [] := by simpa using ow_cut how rfl (i := 0) (by omega)
    obtain ⟨X, hX⟩ : ∃ X, (W.drop k).map (Value.int .u8) = X := ⟨_, rfl⟩
    have hsrc : ∀ j u, X[j]? = some u → w.cell? ((⟨g, k, none⟩ : Addr).add j) = some u := fun j u hj => by
      rw [Addr.add_lit, hA.cell]
      rw [← hX, List.map_drop, List.getElem?_drop, ← hct, List.getElem?_take] at hj
      split at hj
      · exact hj
      · cases hj
    have hsl : X.length = W.length - k := by rw [← hX, List.length_map]; exact HL.out
    have hs1 : ∀ u ∈ X, u.oneCell' = true := fun u hu => by rw [← hX] at hu; exact oneCell_u8 _ u hu
    have HX := Lib.hid hX
    have hcm' : c ≤ 9223372036854775807 := by unfold maxLen at hcm; omega
    clear hl hct hX hOL how
    rw [hml] at hnc ⊢
    clear hml
    generalize W.length = n at *
    have hc0 : ¬ c = 0 := by omega
    have hcz : (k : Int) ≤ (c : Int) := by omega
    have hnz : (n : Int) ≤ (c : Int) := by omega
    have hkz : (k : Int) ≤ (n : Int) := by omega
    have hk1 : ¬ (0 : Int) = (k : Int) := by omega
    have hcq : ¬ c = n - k := by omega
    have mixed : Try.prog.follows .mixedOrders = true := by kernel_rfl
    have hown' : Ow w.drew base 5 (.slice (some ⟨g, 0, none⟩) 0 c) [] := ow_keep hown fun _ _ => rfl
    have hb' : base ≤ w.drew.heap.size := hb
    have hsrc' : ∀ j u, X[j]? = some u → w.drew.cell? ((⟨g, k, none⟩ : Addr).add j) = some u := hsrc
    clear hown hsrc
    have HT : Hid (∀ (v2 : Value) (w2 : World), Ow w2 base 5 v2 ([] ++ X) → (∀ g' n' c', Value.slice (some ⟨g, 0, none⟩) 0 c = .slice (some ⟨g', 0, none⟩) n' c' → n' + (n - k) ≤ c' → v2 = .slice (some ⟨g', 0, none⟩) (n' + (n - k)) c') → ∃ cur3, v2 = .slice (some ⟨g, 0, none⟩) (n - k) c ∧ At w2 g 5 cur3 ∧ Hid (cur3.length = c) ∧ Hid (cur3.take (n - k) = X)) := Lib.hid (by
      intro v2 w2 h1 h2
      have e := h2 g 0 c rfl (by omega)
      rw [Nat.zero_add] at e
      subst e
      obtain ⟨A3, c3, e, _, _, h3⟩ := ow_open h1
      rw [List.nil_append] at *
      injection e with e1 e2 e3
      subst e1; subst e3
      rcases h3 with ⟨h, _⟩ | ⟨g3, cur3, h, _, _, hA3, hl3, ht3⟩
      · cases h
      · injection h with h
        injection h with h
        subst h
        exact ⟨cur3, rfl, hA3, Lib.hid hl3, Lib.hid (by rw [← hsl]; exact ht3)⟩)
    have HF : Hid (∀ (w3 w4 : World) (cur3 : List Value) (N : Nat), At w3 g 5 (splice cur3 (n - k) (List.replicate N (Value.int .u8 0))) → N = n - (n - k) → cur3.length = c → cur3.take (n - k) = X → Own w3 base 5 (.slice (some ⟨g, 0, none⟩) (n - k) c) (W.drop k)) := Lib.hid (by
      intro w3 w4 cur3 N h1 hN h2 h3
      refine Own.of_block HB.out (by rw [HL.out]) h1 hbg (by omega) hcm (by simp only [List.size_toArray]; rw [length_splice _ _ _ (by simp; omega)]; exact h2) ?_
      rw [HX.out, ← h3]
      simp only [List.toList_toArray]
      unfold splice
      rw [List.take_append_of_le_length (by simp; omega), List.take_take]
      congr 1
      omega)
    by_cases hck : c = k
    · subst hck
      obtain rfl : n = c := by omega
      obtain rfl : X = [] := List.eq_nil_of_length_eq_zero (by omega)
      rw [Nat.sub_self] at HT HF hsl
      have hcn : ¬ n = 0 := by omega
      clear hcq hsrc'
      go_enter Try.func36, Try.ntmps36
      go_wp2_with fail
      go_region_law_o (refine step_app1 o8 rfl (.tmp 22) (.tmp 25) rfl base (.slice (some ⟨g, 0, none⟩) 0 n) [] (by simp [Act.eval, Act.put]) hown' (some ⟨g, 0, none⟩) 0 0 (by simp [Act.eval, Act.put]) [] rfl (fun h => absurd h (by omega)) hs1 (by simp) hb' ?_; intro v2 w2 hown2 hg2 hv2 hin2; obtain ⟨cur3, rfl, hA3, HL3, HT3⟩ := HT.out v2 w2 hown2 hin2; clear hown2 hin2 hv2)
      go_wp2_with (refine wpList_clear1 o8 rfl (.tmp 31) rfl (some ⟨g, 0, none⟩) n n g 0 cur3 _ rfl hA3 (fun _ => rfl) (by have := HL3.out; omega) ?_; intro w3 hA4 hk4)
      go_ret
      exact ⟨_, rfl, HF.out w3 w3 cur3 _ hA4 rfl HL3.out HT3.out, (Kept.from_drew (grown_kept hg2)).trans (hk4.mono fun j hj => .inl (by subst hj; rfl)), fun k hk => hk⟩
    · go_enter Try.func36, Try.ntmps36
      go_wp2_with fail
      go_region_law_o (refine step_app1 o8 rfl (.tmp 22) (.tmp 25) rfl base (.slice (some ⟨g, 0, none⟩) 0 c) [] (by simp [Act.eval, Act.put]) hown' (some ⟨g, k, none⟩) (n - k) (c - k) (by simp [Act.eval, Act.put]) X hsl (fun _ => ⟨_, rfl, hsrc'⟩) hs1 (by simp; omega) hb' ?_; intro v2 w2 hown2 hg2 hv2 hin2; obtain ⟨cur3, rfl, hA3, HL3, HT3⟩ := HT.out v2 w2 hown2 hin2; clear hown2 hin2 hv2)
      have hnkz : ((n - k : Nat) : Int) ≤ (n : Int) := by omega
      go_wp2_with (refine wpList_clear1 o8 rfl (.tmp 31) rfl (some ⟨g, n - k, none⟩) (n - (n - k)) (c - (n - k)) g (n - k) cur3 _ rfl hA3 (fun _ => rfl) (by have := HL3.out; omega) ?_; intro w3 hA4 hk4)
      go_ret
      exact ⟨_, rfl, HF.out w3 w3 cur3 _ hA4 rfl HL3.out HT3.out, (Kept.from_drew (grown_kept hg2)).trans (hk4.mono fun j hj => .inl (by subst hj; rfl)), fun k hk => hk⟩
end
section
set_option linter.unusedVariables false
set_option linter.unusedSimpArgs false
open Go.RowKit
structure Bc (w : World) (base p ps : Nat) (vs vw : Value) (l : RL) (W : List Int) (S : BS) : Prop where
  at_ : At w p 74 [.int .u64 S.rd, .int .u64 S.hi, .int .u64 S.fi, .bool S.en, .pointer (some ⟨ps, 0, none⟩), vw]
  set_ : SetV w base ps 2048 vs l
  own : Own w base 5 vw W
  n1 : p ≠ ps
  n2 : vs.ownBlock ≠ some p
  n3 : vw.ownBlock ≠ some p
  n4 : vw.ownBlock ≠ some ps
  n5 : ∀ k, vs.ownBlock = some k → vw.ownBlock ≠ some k
  bp : base ≤ p
  pm : Pm S.rd l W S.g
/-- The blocks of a buffer. -/
def bO (p ps : Nat) (vs vw : Value) : Nat → Prop := fun b => b = p ∨ b = ps ∨ vs.ownBlock = some b ∨ vw.ownBlock = some b
section
variable {w w' : World} {base p ps : Nat} {vs vw : Value} {l : RL} {W : List Int} {S : BS}
theorem Bc.lt (h : Bc w base p ps vs vw l W S) : ∀ b, bO p ps vs vw b → base ≤ b ∧ b < w.heap.size := by
  rintro b (rfl | rfl | hb | hb)
  · exact ⟨h.bp, h.at_.lt⟩
  · exact ⟨h.set_.bp, h.set_.at_.lt⟩
  · exact h.set_.own.lt b hb
  · exact h.own.block_lt b hb
theorem Bc.kept {T : Nat → Prop} (h : Bc w base p ps vs vw l W S) (k : Kept T w w') (hs : ∀ b, bO p ps vs vw b → ¬ T b) : Bc w' base p ps vs vw l W S :=
  { h with
    at_ := h.at_.kept k (hs p (.inl rfl))
    set_ := h.set_.kept k (hs ps (.inr (.inl rfl))) fun j hj => hs j (.inr (.inr (.inl hj)))
    own := h.own.kept k fun j hj => hs j (.inr (.inr (.inr hj))) }
theorem Bc.drewN (h : Bc w base p ps vs vw l W S) (n : Nat) : Bc (w.drewN n) base p ps vs vw l W S := h.kept ((Kept.refl (fun _ => False) w).drewN n) fun _ _ h => h
theorem Bc.c0 (h : Bc w base p ps vs vw l W S) : w.cell? ⟨p, 0, none⟩ = some (.int .u64 S.rd) := by rw [h.at_.cell]; rfl
theorem Bc.c1 (h : Bc w base p ps vs vw l W S) : w.cell? ⟨p, 1, none⟩ = some (.int .u64 S.hi) := by rw [h.at_.cell]; rfl
theorem Bc.c2 (h : Bc w base p ps vs vw l W S) : w.cell? ⟨p, 2, none⟩ = some (.int .u64 S.fi) := by rw [h.at_.cell]; rfl
theorem Bc.c3 (h : Bc w base p ps vs vw l W S) : w.cell? ⟨p, 3, none⟩ = some (.bool S.en) := by rw [h.at_.cell]; rfl
theorem Bc.c4 (h : Bc w base p ps vs vw l W S) : w.cell? ⟨p, 4, none⟩ = some (.pointer (some ⟨ps, 0, none⟩)) := by rw [h.at_.cell]; rfl
theorem Bc.c5 (h : Bc w base p ps vs vw l W S) : w.cell? ⟨p, 5, none⟩ = some vw := by rw [h.at_.cell]; rfl
end
/-- A buffer, and the blocks that it has. -/
def Bf (w : World) (base p : Nat) (O : Nat → Prop) (S : BS) : Prop := ∃ ps vs vw l W, O = bO p ps vs vw ∧ Bc w base p ps vs vw l W S
section
variable {w w' : World} {base p : Nat} {O : Nat → Prop} {S : BS}
theorem Bf.lt (h : Bf w base p O S) : ∀ b, O b → base ≤ b ∧ b < w.heap.size := by
  obtain ⟨ps, vs, vw, l, W, rfl, h⟩ := h
  exact h.lt
theorem Bf.kept {T : Nat → Prop} (h : Bf w base p O S) (k : Kept T w w') (hs : ∀ b, O b → ¬ T b) : Bf w' base p O S := by
  obtain ⟨ps, vs, vw, l, W, rfl, h⟩ := h
  exact ⟨ps, vs, vw, l, W, rfl, h.kept k hs⟩
theorem Bf.below (h : Bf w base p O S) (k : Below w.heap.size w w') : Bf w' base p O S := h.kept (Kept.of_below k (fun _ => False)) fun _ _ h => h
theorem Bf.drewN (h : Bf w base p O S) (n : Nat) : Bf (w.drewN n) base p O S := h.kept ((Kept.refl (fun _ => False) w).drewN n) fun _ _ h => h
end
/-- What a call that changes a buffer leaves. -/
def BPost (r : Value) (base p : Nat) (O : Nat → Prop) (S' : BS) (w : World) (e : Ending) (w' : World) : Prop :=
  e = .returned r ∧ ∃ O', Bf w' base p O' S' ∧ Kept O w w' ∧ ∀ j, O' j → O j ∨ w.heap.size ≤ j
/-- What New leaves. -/
def INew (w : World) (e : Ending) (w' : World) : Prop := ∃ p, e = .returned (.pointer (some ⟨p, 0, none⟩)) ∧ (∃ O, Bf w' w.heap.size p O bs0) ∧ Below w.heap.size w w'
set_option maxRecDepth 100000 in
theorem inew_any (w : World) : Calls Try.prog 18 #[] w (INew w) := by
  have HN := Lib.hid (new_any 2048 w (by omega))
  have HF : Hid (∀ w1, SetV w1 w.heap.size w.heap.size 2048 (.slice none 0 0) [] → Below w.heap.size w w1 → ∃ O, Bf (w1.alloc (.cells #[.int .u64 0, .int .u64 0, .int .u64 0, .bool false, .pointer (some ⟨w.heap.size, 0, none⟩), .slice none 0 0] 74)) w.heap.size w1.heap.size O bs0) := Lib.hid (by
    intro w1 hs hb
    have hlt := hs.at_.lt
    refine ⟨_, w.heap.size, .slice none 0 0, .slice none 0 0, [], [], rfl, ⟨At.new w1 _ _, hs.kept ((Kept.refl (fun _ => False) w1).alloc _) (fun h => h) (fun _ _ h => h), Own.none_ _ _ _, by omega, (by intro h; cases h), (by intro h; cases h), (by intro h; cases h), (by intro k h; cases h), hb.size, pm0⟩⟩)
  go_enter Try.func18, Try.ntmps18
  go_wp2_with (go_at_call 26; refine HN.out.mono ?_; rintro e w1 ⟨rfl, hs1, hb1⟩; have HO := Lib.hid (HF.out w1 hs1 hb1); have hb2 := hb1.alloc hb1.size (.cells #[.int .u64 0, .int .u64 0, .int .u64 0, .bool false, .pointer (some ⟨w.heap.size, 0, none⟩), .slice none 0 0] 74))
  go_ret
  exact ⟨_, rfl, HO.out, hb2⟩
theorem iread_any {w : World} {base p : Nat} {O : Nat → Prop} {S : BS} (h : Bf w base p O S) : Calls Try.prog 20 #[.pointer (some ⟨p, 0, none⟩)] w fun e w' => e = .returned (.int .u64 S.rd) ∧ w' = w := by
  obtain ⟨ps, vs, vw, l, W, _, h⟩ := h
  have h0 := h.c0
  clear h
  go_enter Try.func20, Try.ntmps20
  go_wp2
  go_ret
  exact ⟨rfl, rfl⟩
theorem ihigh_any {w : World} {base p : Nat} {O : Nat → Prop} {S : BS} (h : Bf w base p O S) : Calls Try.prog 19 #[.pointer (some ⟨p, 0, none⟩)] w fun e w' => e = .returned (.int .u64 S.hi) ∧ w' = w := by
  obtain ⟨ps, vs, vw, l, W, _, h⟩ := h
  have h0 := h.c1
  clear h
  go_enter Try.func19, Try.ntmps19
  go_wp2
  go_ret
  exact ⟨rfl, rfl⟩
theorem ifin_any {w : World} {base p : Nat} {O : Nat → Prop} {S : BS} (h : Bf w base p O S) : Calls Try.prog 42 #[.pointer (some ⟨p, 0, none⟩)] w fun e w' => e = .returned (.tuple #[.int .u64 S.fi, .bool S.en]) ∧ ∃ d, w' = w.drewN d := by
  obtain ⟨ps, vs, vw, l, W, _, h⟩ := h
  have h0 := h.c2
  have h1 := h.c3
  clear h
  go_enter Try.func42, Try.ntmps42
  go_wp2
  go_quiet (fail)
  go_wp2
  go_ret2
  exact ⟨rfl, _, rfl⟩
/-- What speaks against a piece up to n. -/
def agB (S : BS) (n : Nat) (fin : Bool) : Bool := (S.en && (decide (S.fi < n) || (fin && !decide (n = S.fi)))) || (fin && decide (n < S.hi))
set_option maxHeartbeats 2000000 in
theorem iag_any {w : World} {base p : Nat} {O : Nat → Prop} {S : BS} (h : Bf w base p O S) (n : Nat) (fin : Bool) : Calls Try.prog 38 #[.pointer (some ⟨p, 0, none⟩), .int .u64 n, .bool fin] w fun e w' => e = .returned (.bool (agB S n fin)) ∧ w' = w := by
  obtain ⟨ps, vs, vw, l, W, _, h⟩ := h
  have h1 := h.c1
  have h2 := h.c2
  have h3 := h.c3
  clear h
  unfold agB
  obtain ⟨rd, hi, fi, en, g⟩ := S
  simp only at h1 h2 h3 ⊢
  cases en <;> cases fin
  · go_enter Try.func38, Try.ntmps38
    go_wp2
    go_ret
    exact ⟨by simp, rfl⟩
  · go_enter Try.func38, Try.ntmps38
    go_wp2
    go_ret
    exact ⟨by simp, rfl⟩
  · by_cases hc : fi < n
    · have hcz : (fi : Int) < (n : Int) := by omega
      go_enter Try.func38, Try.ntmps38
      go_wp2
      go_ret
      exact ⟨by simp [hc], rfl⟩
    · have hcz : ¬ (fi : Int) < (n : Int) := by omega
      go_enter Try.func38, Try.ntmps38
      go_wp2
      go_ret
      exact ⟨by simp [hc], rfl⟩
  · rcases Nat.lt_trichotomy fi n with hc | rfl | hc
    · have hcz : (fi : Int) < (n : Int) := by omega
      go_enter Try.func38, Try.ntmps38
      go_wp2
      go_ret
      exact ⟨by simp [hc], rfl⟩
    · have hcz : ¬ (fi : Int) < (fi : Int) := by omega
      go_enter Try.func38, Try.ntmps38
      go_wp2
      go_ret
      exact ⟨by simp, rfl⟩
    · have hcz : ¬ (fi : Int) < (n : Int) := by omega
      have hne : ¬ (n : Int) = (fi : Int) := by omega
      have hnn : ¬ n = fi := by omega
      go_enter Try.func38, Try.ntmps38
      go_wp2
      go_ret
      exact ⟨by simp [hnn], rfl⟩
end
section
set_option linter.unusedVariables false
set_option linter.unusedSimpArgs false
open Go.RowKit
set_option maxHeartbeats 4000000 in
set_option maxRecDepth 100000 in
theorem iready_any (base p : Nat) (O : Nat → Prop) (S : BS) (w : World) (h : Bf w base p O S) (hok : S.ok) (k : Nat) (hk : IsR S.g S.rd k) :
    Calls Try.prog 34 #[.pointer (some ⟨p, 0, none⟩)] w fun e w' => e = .returned (.int .i64 k) ∧ Below w.heap.size w w' := by
  obtain ⟨ps, vs, vw, l, W, _, hc⟩ := h
  have h0 := hc.c0
  have h1 := hc.c1
  have h4 := hc.c4
  have hG := Lib.hid (fun X (hX : Below w.heap.size w X) => gap_any' base ps 2048 vs l X (hc.set_.below hX) (by have := hc.pm.len; omega) hc.pm.gd S.rd S.hi)
  have HP : Hid (p < w.heap.size) := Lib.hid hc.at_.lt
  have hrd : S.rd ≤ 1099511628288 := by have := hok.rh; have := hok.hm; omega
  have hhi : S.hi ≤ 1099511628288 := hok.hm
  have hrh := hok.rh
  rcases gap_cases hc.pm.gd S.rd S.hi with ⟨hV, hall⟩ | ⟨a, e, hV, hfa, hae, heE, hall, hnone⟩
  · rw [hV] at hG
    have hkk : S.hi - S.rd = k := IsR.uniq ⟨fun i hi => by rw [← hc.pm.has _ (by omega)]; exact hall _ (by omega) (by omega), by rw [show S.rd + (S.hi - S.rd) = S.hi by omega]; exact hok.no _ (Nat.le_refl _)⟩ hk
    have hz : (S.hi : Int) - (S.rd : Int) = (k : Int) := by omega
    have hkb : k ≤ 1099511628288 := by omega
    clear hall hV hc hok hk
    have hX1 : Below w.heap.size w (w.alloc (.cells #[.int .u64 0, .int .u64 0] 99)).drew := ((Below.refl _ w).alloc (Nat.le_refl _) _).drew
    have hX0 : Below w.heap.size w w.drew := (Below.refl _ w).drew
    have hN1 : At (w.alloc (.cells #[.int .u64 0, .int .u64 0] 99)).drew w.heap.size 99 [.int .u64 0, .int .u64 0] := At.new w _ _
    have HG1 := Lib.hid (hG.out _ hX1)
    have HG0 := Lib.hid (hG.out _ hX0)
    have HX := Lib.hid (And.intro hX0 hX1)
    have HN := Lib.hid hN1
    clear hX0 hX1 hN1 hG
    have KEEP : Hid (∀ W, Below w.heap.size w W → Below w.heap.size w W ∧ W.cell? ⟨p, 4, none⟩ = some (.pointer (some ⟨ps, 0, none⟩)) ∧ W.cell? ⟨p, 0, none⟩ = some (.int .u64 S.rd)) := Lib.hid (fun W hW => ⟨hW, (hW.cell (p := ⟨p, 4, none⟩) HP.out).trans h4, (hW.cell (p := ⟨p, 0, none⟩) HP.out).trans h0⟩)
    go_enter Try.func34, Try.ntmps34
    go_wp2
    go_region_held3 (fun W => Below w.heap.size w W ∧ W.cell? ⟨p, 4, none⟩ = some (.pointer (some ⟨ps, 0, none⟩)) ∧ W.cell? ⟨p, 0, none⟩ = some (.int .u64 S.rd)) (first | exact ⟨(Below.refl _ w).drew, h4, h0⟩ | exact ⟨((Below.refl _ w).drew.alloc (Nat.le_refl _) _), (World.cell?_alloc_lt _ _ _ HP.out).trans h4, (World.cell?_alloc_lt _ _ _ HP.out).trans h0⟩ | exact KEEP.out _ HB.out | exact KEEP.out _ (HB.out.alloc HB.out.size _) | exact KEEP.out _ ((HB.out.setCell (Nat.le_refl _) _).setCell (Nat.le_refl _) _)) ((go_at_call 54; first | ((with_reducible refine HG0.out.mono ?_); rintro e w2 ⟨rfl, hB2⟩; have HB := Lib.hid (HX.out.1.trans hB2); clear hB2) | ((with_reducible refine HG1.out.mono ?_); rintro e w2 ⟨rfl, hB2⟩; have hA2 := HN.out.below hB2 (by simp); have d0 := hA2.cell 0; have d1 := hA2.cell 1; have f0 := hA2.frozen 0; have f1 := hA2.frozen 1; simp at d0 d1; have HB := Lib.hid (HX.out.2.trans (hB2.mono HX.out.2.size)); clear hB2 hA2)))
    all_goals go_wp2
    all_goals go_ret
    all_goals (refine ⟨by first | rfl | simp [hz], ?_⟩; first | exact HB.out | exact HB.out.alloc HB.out.size _ | exact (HB.out.setCell (Nat.le_refl _) _).setCell (Nat.le_refl _) _ | exact HB.out.setCell (Nat.le_refl _) _)
  · rw [hV] at hG
    have hkk : a - S.rd = k := IsR.uniq ⟨fun i hi => by rw [← hc.pm.has _ (by omega)]; exact hall _ (by omega) (by omega), by
      have := hnone a (Nat.le_refl _) hae
      rw [hc.pm.has _ (by omega)] at this
      rw [show S.rd + (a - S.rd) = a by omega]
      cases hq : S.g a with
      | none => rfl
      | some x => rw [hq] at this; cases this⟩ hk
    have hz : (a : Int) - (S.rd : Int) = (k : Int) := by omega
    have hkb : k ≤ 1099511628288 := by omega
    clear hall hV hc hok hk hnone
    have hX1 : Below w.heap.size w (w.alloc (.cells #[.int .u64 0, .int .u64 0] 99)).drew := ((Below.refl _ w).alloc (Nat.le_refl _) _).drew
    have hX0 : Below w.heap.size w w.drew := (Below.refl _ w).drew
    have hN1 : At (w.alloc (.cells #[.int .u64 0, .int .u64 0] 99)).drew w.heap.size 99 [.int .u64 0, .int .u64 0] := At.new w _ _
    have HG1 := Lib.hid (hG.out _ hX1)
    have HG0 := Lib.hid (hG.out _ hX0)
    have HX := Lib.hid (And.intro hX0 hX1)
    have HN := Lib.hid hN1
    clear hX0 hX1 hN1 hG
    have KEEP : Hid (∀ W, Below w.heap.size w W → Below w.heap.size w W ∧ W.cell? ⟨p, 4, none⟩ = some (.pointer (some ⟨ps, 0, none⟩)) ∧ W.cell? ⟨p, 0, none⟩ = some (.int .u64 S.rd)) := Lib.hid (fun W hW => ⟨hW, (hW.cell (p := ⟨p, 4, none⟩) HP.out).trans h4, (hW.cell (p := ⟨p, 0, none⟩) HP.out).trans h0⟩)
    go_enter Try.func34, Try.ntmps34
    go_wp2
    go_region_held3 (fun W => Below w.heap.size w W ∧ W.cell? ⟨p, 4, none⟩ = some (.pointer (some ⟨ps, 0, none⟩)) ∧ W.cell? ⟨p, 0, none⟩ = some (.int .u64 S.rd)) (first | exact ⟨(Below.refl _ w).drew, h4, h0⟩ | exact ⟨((Below.refl _ w).drew.alloc (Nat.le_refl _) _), (World.cell?_alloc_lt _ _ _ HP.out).trans h4, (World.cell?_alloc_lt _ _ _ HP.out).trans h0⟩ | exact KEEP.out _ HB.out | exact KEEP.out _ (HB.out.alloc HB.out.size _) | exact KEEP.out _ ((HB.out.setCell (Nat.le_refl _) _).setCell (Nat.le_refl _) _)) ((go_at_call 54; first | ((with_reducible refine HG0.out.mono ?_); rintro e w2 ⟨rfl, hB2⟩; have HB := Lib.hid (HX.out.1.trans hB2); clear hB2) | ((with_reducible refine HG1.out.mono ?_); rintro e w2 ⟨rfl, hB2⟩; have hA2 := HN.out.below hB2 (by simp); have d0 := hA2.cell 0; have d1 := hA2.cell 1; have f0 := hA2.frozen 0; have f1 := hA2.frozen 1; simp at d0 d1; have HB := Lib.hid (HX.out.2.trans (hB2.mono HX.out.2.size)); clear hB2 hA2)))
    all_goals go_wp2
    all_goals go_ret
    all_goals (refine ⟨by first | rfl | simp [hz], ?_⟩; first | exact HB.out | exact HB.out.alloc HB.out.size _ | exact (HB.out.setCell (Nat.le_refl _) _).setCell (Nat.le_refl _) _ | exact HB.out.setCell (Nat.le_refl _) _)
set_option maxHeartbeats 4000000 in
set_option maxRecDepth 100000 in
theorem iwhole_any (base p : Nat) (O : Nat → Prop) (S : BS) (w : World) (h : Bf w base p O S) (hok : S.ok) (k : Nat) (hk : IsR S.g S.rd k) :
    Calls Try.prog 41 #[.pointer (some ⟨p, 0, none⟩)] w fun e w' => e = .returned (.bool (S.en && decide (S.rd + k = S.fi))) ∧ Below w.heap.size w w' := by
  have HR := Lib.hid (fun X (hX : Below w.heap.size w X) => iready_any base p O S X (h.below hX) hok k hk)
  obtain ⟨ps, vs, vw, l, W, _, hc⟩ := h
  have h0 := hc.c0
  have h2 := hc.c2
  have h3 := hc.c3
  have HP : Hid (p < w.heap.size) := Lib.hid hc.at_.lt
  have hkb := hk.le hok
  have hhi := hok.hm
  clear hok hk hc
  obtain ⟨rd, hi, fi, en, g⟩ := S
  simp only at *
  cases en
  · go_enter Try.func41, Try.ntmps41
    go_wp2
    go_quiet (fail)
    go_wp2
    go_ret
    exact ⟨rfl, ⟨rfl, rfl, rfl, Nat.le_refl _, fun _ _ => rfl⟩⟩
  · have KEEP : Hid (∀ W, Below w.heap.size w W → Below w.heap.size w W ∧ W.cell? ⟨p, 0, none⟩ = some (.int .u64 rd) ∧ W.cell? ⟨p, 2, none⟩ = some (.int .u64 fi) ∧ W.cell? ⟨p, 3, none⟩ = some (.bool true)) := Lib.hid (fun W hW => ⟨hW, (hW.cell (p := ⟨p, 0, none⟩) HP.out).trans h0, (hW.cell (p := ⟨p, 2, none⟩) HP.out).trans h2, (hW.cell (p := ⟨p, 3, none⟩) HP.out).trans h3⟩)
    have HX0 : Hid (Below w.heap.size w w.drew) := Lib.hid (Below.refl _ w).drew
    have HR0 := Lib.hid (HR.out _ HX0.out)
    have hww : Hid (IntKind.u64.wrap ((rd : Int) + IntKind.u64.wrap (k : Int)) = ((rd + k : Nat) : Int)) := Lib.hid (by rw [IntKind.wrap_u64, IntKind.wrap_u64]; omega)
    have hrk : (rd : Int) + (k : Int) = ((rd + k : Nat) : Int) := by omega
    have hkb2 : rd + k ≤ 1099511628288 := by omega
    have hQ : Hid (∀ b : Bool, b = decide (rd + k = fi) → (Ending.returned (.bool b) = .returned (.bool (true && decide (rd + k = fi))))) := Lib.hid (fun b h => by rw [h, Bool.true_and])
    go_enter Try.func41, Try.ntmps41
    go_wp2
    go_region_held3 (fun W => Below w.heap.size w W ∧ W.cell? ⟨p, 0, none⟩ = some (.int .u64 rd) ∧ W.cell? ⟨p, 2, none⟩ = some (.int .u64 fi) ∧ W.cell? ⟨p, 3, none⟩ = some (.bool true)) (first | exact KEEP.out _ HX0.out | exact KEEP.out _ HB.out) ((go_at_call 34; (with_reducible refine HR0.out.mono ?_); rintro e w2 ⟨rfl, hB2⟩; have HB := Lib.hid (HX0.out.trans hB2); clear hB2))
    all_goals go_wp2
    all_goals go_ret
    all_goals (refine ⟨hQ.out _ ?_, HB.out⟩)
    all_goals (first | rw [hww.out] | skip)
    all_goals (rw [Bool.eq_iff_iff]; simp; try omega)
end
end Go.Proofs.Ytahalbmcijbbmaa
