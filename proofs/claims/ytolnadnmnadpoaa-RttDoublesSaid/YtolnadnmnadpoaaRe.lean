/-
  The law's play: what an estimator and the document's say of any samples.
-/
import Derived.Test.YtolnadnmnadpoaaRc
import Derived.Deep.LoopGhost
namespace Go.Proofs.Ytolnadnmnadpoaa
set_option linter.unusedVariables false
set_option linter.unusedSimpArgs false
open Go.RowKit
/-- A slice of signed numbers that can be read. -/
structure InN (w : World) (A : Option Addr) (n : Nat) (xs : List Int) : Prop where
  len : xs.length = n
  wd : ∀ x ∈ xs, -9223372036854775808 ≤ x ∧ x < 9223372036854775808
  at_ : 0 < n → ∃ b off, A = some ⟨b, off, none⟩ ∧ b < w.heap.size ∧ ∀ i x, xs[i]? = some x → w.cell? ⟨b, off + i, none⟩ = some (.int .i64 x)
theorem InN.below {w w' : World} {A : Option Addr} {n : Nat} {xs : List Int} (h : InN w A n xs) (k : Below w.heap.size w w') : InN w' A n xs := ⟨h.len, h.wd, fun hn => by
  obtain ⟨b, off, e, hb, hc⟩ := h.at_ hn
  exact ⟨b, off, e, Nat.lt_of_lt_of_le hb k.size, fun i x hi => (k.cell (p := ⟨b, _, none⟩) hb).trans (hc i x hi)⟩⟩
theorem InN.nil_ (w : World) (A : Option Addr) : InN w A 0 [] := ⟨rfl, fun x h => (by cases h), fun h => absurd h (by omega)⟩
/-- Two estimators that know the same. -/
structure Tw (w0 wr : World) (p q : Nat) (s : ES) : Prop where
  ok : s.ok
  ap : At wr p 38 s.l
  aq : At wr q 42 s.l
  bl : Below w0.heap.size w0 wr
  lp : w0.heap.size ≤ p
  lq : w0.heap.size ≤ q
  ne : p ≠ q
theorem Tw.drewN {w0 wr : World} {p q : Nat} {s : ES} (h : Tw w0 wr p q s) (d : Nat) : Tw w0 (wr.drewN d) p q s := ⟨h.ok, h.ap, h.aq, ⟨h.bl.os, h.bl.tape, h.bl.output, h.bl.size, h.bl.block⟩, h.lp, h.lq, h.ne⟩
theorem Tw.mid {w0 wr w1 : World} {p q : Nat} {s : ES} (h : Tw w0 wr p q s) (k : Kept (· = p) wr w1) : Below w0.heap.size w0 w1 ∧ At w1 q 42 s.l :=
  ⟨k.below h.bl h.bl.size (fun j hj => by rw [hj]; exact h.lp), h.aq.kept k (fun e => h.ne e.symm)⟩
theorem Tw.next {w0 wr w1 w2 : World} {p q : Nat} {s s' : ES} (h : Tw w0 wr p q s) (ok : s'.ok) (a : At w1 p 38 s'.l) (k : Kept (· = p) wr w1) (a2 : At w2 q 42 s'.l) (k2 : Kept (· = q) w1 w2) : Tw w0 w2 p q s' :=
  ⟨ok, a.kept k2 h.ne, a2, k2.below (h.mid k).1 (h.mid k).1.size (fun j hj => by rw [hj]; exact h.lq), h.lp, h.lq, h.ne⟩
set_option maxRecDepth 100000 in
set_option maxHeartbeats 4000000 in
theorem eplay_any (A : Option Addr) (n c : Nat) (xs : List Int) (k : Int) (w : World) (hu : InN w A n xs) (hnc : n ≤ c) (hcm : c ≤ maxLen) (hk : -9223372036854775808 ≤ k ∧ k < 9223372036854775808) :
    Calls Try.prog 7 #[.slice A n c, .int .i64 k] w fun e w' => e = .returned (.bool true) ∧ Below w.heap.size w w' := by
  have HU := Lib.hid hu
  have HK := Lib.hid hk
  unfold maxLen at hcm
  clear hu hk
  go_enter Try.func7, Try.ntmps7
  go_wp2_with (go_at_call 10; refine (enew_any _).mono ?_; rintro e w1 ⟨rfl, hA1, hB1⟩)
  obtain ⟨p, hp⟩ : ∃ p, w.heap.size = p := ⟨_, rfl⟩
  rw [hp] at hA1 ⊢
  have H1 := Lib.hid (And.intro hp (And.intro hA1 hB1))
  clear hp hA1 hB1
  go_wp2_with (go_at_call 16; refine (frnew_any _).mono ?_; rintro e w2 ⟨rfl, hA2, hB2⟩)
  obtain ⟨q, hq⟩ : ∃ q, w1.heap.size = q := ⟨_, rfl⟩
  rw [hq] at hA2 ⊢
  have HT : Hid (Tw w w2 p q es0) := Lib.hid ⟨es0_ok, H1.out.2.1.below hB2 H1.out.2.1.lt, hA2, H1.out.2.2.trans (hB2.mono H1.out.2.2.size), by rw [H1.out.1]; exact Nat.le_refl _, by rw [← hq]; exact H1.out.2.2.size, by have := H1.out.2.1.lt; omega⟩
  clear H1 hA2 hB2 hq
  go_loopg [7] 60 (fun kx s7 wr => ∃ (i : Nat) (s : ES), s7 = .int .i64 i ∧ i ≤ n ∧ i ≤ 60 ∧ 60 - i ≤ kx ∧ Hid (Tw w wr p q s))
  case atStart => exact ⟨0, _, rfl, Nat.zero_le _, by omega, by omega, HT⟩
  case round =>
    clear HT
    obtain ⟨i, s, rfl, hin, hi60, hkx, hT⟩ := hrel
    by_cases hgo : i < n ∧ i < 60
    · obtain ⟨g1, g2⟩ := hgo
      obtain ⟨b, off, rfl, hb, hc⟩ := (HU.out.below hT.out.bl).at_ (by omega)
      obtain ⟨x, hx⟩ : ∃ x, xs[i]? = some x := ⟨_, List.getElem?_eq_getElem (by rw [HU.out.len]; exact g1)⟩
      have hxb := HU.out.wd x (List.mem_of_getElem? hx)
      have cx := hc i x hx
      have HW := Lib.hid (show ∀ W, Below w.heap.size w W → W.cell? ⟨b, off + i, none⟩ = some (.int .i64 x) from fun W hW => by
        obtain ⟨b', off', e, hb', hc'⟩ := (HU.out.below hW).at_ (by omega)
        injection e with e
        injection e with e1 e2
        subst e1; subst e2
        exact hc' i x hx)
      clear hc hb hx
      have hiz : (i : Int) < (n : Int) := by omega
      have hi6 : (i : Int) < 60 := by omega
      have hii : -9223372036854775808 ≤ (i : Int) ∧ (i : Int) < 9223372036854775808 := by omega
      go_wp2_with (first
        | (go_at_call 11; (with_reducible refine (esample_any hT.out.ap hT.out.ok x hxb).mono ?_); rintro e w3 ⟨rfl, hA3, hk3⟩; have H3 := Lib.hid (And.intro hA3 hk3); clear hA3 hk3; have cx3 := HW.out _ (hT.out.mid H3.out.2).1)
        | (go_at_call 17; (with_reducible refine (frsample_any (hT.out.mid H3.out.2).2 hT.out.ok x hxb).mono ?_); rintro e w4 ⟨rfl, hA4, hk4⟩; have H4 : Hid (Tw w w4 p q (sampS s x)) := Lib.hid (hT.out.next (sampS_ok hT.out.ok x) H3.out.1 H3.out.2 hA4 hk4); clear hA4 hk4 H3 cx3)
        | (go_at_call 18; (with_reducible refine (esame_any H4.out.ap H4.out.aq H4.out.ok k HK.out).mono ?_); rintro e w5 ⟨rfl, d5, rfl⟩; have H5 := Lib.hid (H4.out.drewN d5); clear H4)
        | (go_at_call 18; (with_reducible refine (esame_any H5.out.ap H5.out.aq H5.out.ok i hii).mono ?_); rintro e w6 ⟨rfl, d6, rfl⟩; have H6 := Lib.hid (H5.out.drewN d6); clear H5))
      have H7 := H6
      rw [World.drewN_drewN] at H7
      go_roundg (60 - (i + 1))
      case measure => omega
      case rel => exact ⟨i + 1, _, by simp, by omega, by omega, by omega, H7⟩
    · have hgo2 : i = n ∨ i = 60 := by omega
      clear hgo
      rcases hgo2 with rfl | rfl
      · have hiz : ¬ (i : Int) < (i : Int) := by omega
        go_wp2_with (go_at_call 18; (with_reducible refine (esame_any hT.out.ap hT.out.aq hT.out.ok k HK.out).mono ?_); rintro e w6 ⟨rfl, d6, rfl⟩)
        go_ret
        exact ⟨rfl, (hT.out.drewN d6).bl⟩
      · go_wp2_with (go_at_call 18; (with_reducible refine (esame_any hT.out.ap hT.out.aq hT.out.ok k HK.out).mono ?_); rintro e w6 ⟨rfl, d6, rfl⟩)
        all_goals go_ret
        all_goals exact ⟨rfl, (hT.out.drewN d6).bl⟩
end Go.Proofs.Ytolnadnmnadpoaa
