/-
  Chapter 10's law: known, same.
-/
import Derived.Test.YtoooinjhcgpbgaaQk
import Derived.Test.YtoooinjhcgpbgaaQh
import Derived.Test.YtoooinjhcgpbgaaQr
namespace Go.Proofs.Ytoooinjhcgpbgaa
set_option linter.unusedVariables false
set_option linter.unusedSimpArgs false
open Go.RowKit
section
variable {w w' : World} {base p : Nat} {most : Int} {v : Value} {l : RL}
/-- One more call of Add, in numbers. -/
theorem add_of (hs : SetV w base p most v l) (hg : Gd l) (hn : l.length ≤ 500000) (hb : base ≤ w.heap.size) (hm : 1 ≤ most ∧ most < 9223372036854775808) {lo hi : Int} (h0 : 0 ≤ lo) {r : Bool} {l' : RL} (hr : addB l lo hi most = r) (hl : addV l lo hi most = l') :
    Calls Try.prog 13 #[.pointer (some ⟨p, 0, none⟩), .int .u64 lo, .int .u64 hi] w (SetPost (.bool r) base p most v l' w) := by
  subst hr; subst hl
  exact add_any' base p most v l w hs hn hg hb hm lo hi h0
theorem below_post {W : World} (h : Below w.heap.size w W) (hb : w.heap.size ≤ p) {k : World} (hk : Kept (fun b => b = p ∨ v.ownBlock = some b) W k) (hv : ∀ j, v.ownBlock = some j → w.heap.size ≤ j) : Below w.heap.size w k :=
  hk.below h h.size (fun j hj => hj.elim (fun e => e ▸ hb) (hv j))
end
theorem gd1 : Gd [] := Gd.nil_
theorem gd13 : Gd [(1, 3)] := gd_cons.2 ⟨by unfold OkR; omega, Gd.nil_, fun b h => by cases h⟩
theorem gd15 : Gd [(1, 5)] := gd_cons.2 ⟨by unfold OkR; omega, Gd.nil_, fun b h => by cases h⟩
set_option maxHeartbeats 4000000 in
set_option maxRecDepth 100000 in
theorem known_any (w : World) : Calls Try.prog 8 #[] w (SaysB true w) := by
  have HN := Lib.hid (new_any 4 w (by omega))
  have hre := run_rng
  have hgd := rng_guard
  have e1 : addB [] 1 3 4 = true := by decide
  have e2 : addB [(1, 3)] 3 5 4 = true := by decide
  have e3 : addB [(1, 5)] 5 5 4 = false := by decide
  have f1 : addV [] 1 3 4 = [(1, 3)] := by decide
  have f2 : addV [(1, 3)] 3 5 4 = [(1, 5)] := by decide
  have f3 : addV [(1, 5)] 5 5 4 = [(1, 5)] := by decide
  have g1 : hasL [(1, 5)] 4 = true := by decide
  have g2 : hasL [(1, 5)] 5 = false := by decide
  have E1 := Lib.hid e1; have E2 := Lib.hid e2; have E3 := Lib.hid e3; have F1 := Lib.hid f1; have F2 := Lib.hid f2; have F3 := Lib.hid f3; have G1 := Lib.hid g1; have G2 := Lib.hid g2
  clear e1 e2 e3 f1 f2 f3 g1 g2
  go_enter Try.func8, Try.ntmps8
  go_wp2_with (first
    | (go_at_call 11; refine HN.out.mono ?_; rintro e w1 ⟨rfl, hs1, hB1⟩; have HS1 := Lib.hid hs1; have HB1 := Lib.hid hB1; have HA1 := Lib.hid (add_of hs1 gd1 (by simp) (by have := hB1.size; omega) (by omega) (by omega) E1.out F1.out); clear hs1 hB1)
    | (go_at_call 13; (with_reducible refine HA1.out.mono ?_); rintro e w2 ⟨rfl, v2, hs2, hk2, hv2⟩; have hB2 := below_post (v := .slice none 0 0) HB1.out (Nat.le_refl _) hk2 (fun j hj => absurd hj (by simp [Value.ownBlock])); have HS2 := Lib.hid hs2; have HB2 := Lib.hid hB2; have HA2 := Lib.hid (add_of hs2 gd13 (by simp) (by have := hB2.size; omega) (by omega) (by omega) E2.out F2.out); clear hs2 hk2 hv2 hB2)
    | (go_at_call 13; (with_reducible refine HA2.out.mono ?_); rintro e w3 ⟨rfl, v3, hs3, hk3, hv3⟩; have hB3 := below_post HB2.out (Nat.le_refl _) hk3 (fun j hj => (HS2.out.own.lt j hj).1); have HS3 := Lib.hid hs3; have HB3 := Lib.hid hB3; have HA3 := Lib.hid (add_of hs3 gd15 (by simp) (by have := hB3.size; omega) (by omega) (by omega) E3.out F3.out); clear hs3 hk3 hv3 hB3)
    | (go_at_call 13; (with_reducible refine HA3.out.mono ?_); rintro e w4 ⟨rfl, v4, hs4, hk4, hv4⟩; have hB4 := below_post HB3.out (Nat.le_refl _) hk4 (fun j hj => (HS3.out.own.lt j hj).1); have HS4 := Lib.hid hs4; have HB4 := Lib.hid hB4; have HAL := Lib.hid (all_any' _ _ _ _ _ w4 hs4 (by simp)); clear hs4 hk4 hv4 hB4)
    | (go_at_call 16; refine HAL.out.mono ?_; rintro e w5 ⟨v5, rfl, hO5, hB5⟩; have hs5 := HS4.out.below hB5; have hB5' := HB4.out.trans (hB5.mono HB4.out.size); obtain ⟨g5, c5, rfl, _, _, he51, he52⟩ := hO5.cell (i := 0) rfl; have hH4 := has_any' _ _ _ _ _ w5 hs5 (by simp) gd15 4; rw [G1.out] at hH4; have HH4 := Lib.hid hH4; have HS5 := Lib.hid hs5; have HB5 := Lib.hid hB5'; simp only [Nat.zero_mul, Nat.zero_add] at he51 he52; clear hs5 hB5 hB5' hO5 hH4)
    | (go_at_call 17; (with_reducible refine HH4.out.mono ?_); rintro e w6 ⟨rfl, hB6⟩; have hs6 := HS5.out.below hB6; have hB6' := HB5.out.trans (hB6.mono HB5.out.size); have hH5 := has_any' _ _ _ _ _ w6 hs6 (by simp) gd15 5; rw [G2.out] at hH5; have HH5 := Lib.hid hH5; have HB6 := Lib.hid hB6'; clear hs6 hB6 hB6' hH5)
    | (go_at_call 17; (with_reducible refine HH5.out.mono ?_); rintro e w7 ⟨rfl, hB7⟩; have hB7' := HB6.out.trans (hB7.mono HB6.out.size); have HB7 := Lib.hid hB7'; clear hB7 hB7'))
  go_ret
  exact ⟨rfl, HB7.out⟩
theorem gapV_form (l : RL) (f to : Int) : ∃ a b ok, gapV l f to = #[.agg #[.int .u64 a, .int .u64 b], .bool ok] ∧ gapV2 l f to = #[.agg #[.int .u64 a, .int .u64 b], .bool ok] := by
  by_cases h : to ≤ gapF l f
  · exact ⟨0, 0, false, by unfold gapV; rw [if_pos h], by unfold gapV2; rw [if_pos h]⟩
  · exact ⟨_, _, true, by unfold gapV; rw [if_neg h], by unfold gapV2; rw [if_neg h]⟩
theorem below_dr {w W : World} (h : Below w.heap.size w W) (q : Nat) : Below w.heap.size w (W.drewN q) := ⟨h.os, h.tape, h.output, h.size, h.block⟩
set_option maxHeartbeats 4000000 in
set_option maxRecDepth 100000 in
theorem same_none (base p : Nat) (most : Int) (v : Value) (l : RL) (w : World) (hs : SetV w base p most v l) (hn : l.length ≤ 2000000) (hg : Gd l) (base2 : Nat) (mv : Value) (hm : OwnL w base2 mv l) (n to x : Int) (ok2 : Bool) (hlv : lastV l = #[.int .u64 x, .bool ok2]) (h0 : l.length = 0) (hx : x = 0) (hk : ok2 = false) :
    Calls Try.prog 23 #[.pointer (some ⟨p, 0, none⟩), mv, .int .u64 n, .int .u64 to] w (SaysB true w) := by
  obtain ⟨a, b, ok, hg1, hg2⟩ := gapV_form l n to
  have hG := fun W (hB : Below w.heap.size w W) => gap_any' base p most v l W (hs.below hB) hn hg n to
  rw [hg1] at hG
  have hR := fun W (hB : Below w.heap.size w W) => rgap_any base2 mv l W (hm.below hB) hn n to
  rw [hg2] at hR
  have hL := fun W (hB : Below w.heap.size w W) => largest_any' base p most v l W (hs.below hB) hn hg
  rw [hlv] at hL
  have HG := Lib.hid hG
  have HR := Lib.hid hR
  have HLg := Lib.hid hL
  have HS := Lib.hid hs
  have HM := Lib.hid hm
  have HGd := Lib.hid hg
  have hre := run_rng
  have hgd := rng_guard
  have HN := Lib.hid hn
  obtain ⟨A, c, rfl, hnc, hcm⟩ := hm.shape
  subst hx; subst hk
  rw [h0] at hnc HM HR ⊢
  clear hG hR hL hs hm hg hg1 hg2 hlv
  go_enter Try.func23, Try.ntmps23
  go_wp2_with (first
    | (go_at_call 19; refine (HG.out w (Below.refl _ _)).mono ?_; rintro e w1 ⟨rfl, hB1⟩; have hBA1 := hB1.alloc hB1.size (.cells #[.int .u64 a, .int .u64 b] 41); have HBA1 := Lib.hid hBA1; have HA1 := Lib.hid (At.new w1 41 [.int .u64 a, .int .u64 b]); clear hB1 hBA1)
    | (go_at_call 32; refine (HR.out _ HBA1.out).mono ?_; rintro e w2 ⟨rfl, hB2⟩; have hb2 := HBA1.out.trans (hB2.mono HBA1.out.size); have hBA2 := hb2.alloc hb2.size (.cells #[.int .u64 a, .int .u64 b] 41); have hA1 := HA1.out.below hB2 (by simp); have hA1b := hA1.alloc (.cells #[.int .u64 a, .int .u64 b] 41); have HBA2 := Lib.hid hBA2; have HA2 := Lib.hid (And.intro hA1b (At.new w2 41 [.int .u64 a, .int .u64 b])); clear hB2 hb2 hBA2 hA1 hA1b)
    | (go_at_call 33; refine (HLg.out _ HBA2.out).mono ?_; rintro e w3 ⟨rfl, q, hw3⟩; have hb3 : Below w.heap.size w w3 := (hw3 ▸ below_dr HBA2.out q); have hA3 : At w3 w1.heap.size 41 [.int .u64 a, .int .u64 b] ∧ At w3 w2.heap.size 41 [.int .u64 a, .int .u64 b] := (hw3 ▸ ⟨HA2.out.1.drewN q, HA2.out.2.drewN q⟩); have HB3 := Lib.hid hb3; have HA3 := Lib.hid hA3; clear hb3 hA3 hw3)
    | (go_at_call 16; refine (all_any' base p most v l _ (HS.out.below HB3.out) HN.out).mono ?_; rintro e w4 ⟨v4, rfl, hO4, hB4⟩; have hb4 := HB3.out.trans (hB4.mono HB3.out.size); have hA4 := And.intro (HA3.out.1.below hB4 HA3.out.1.lt) (HA3.out.2.below hB4 HA3.out.2.lt); have HO4 := Lib.hid hO4; have HB4 := Lib.hid hb4; have HA4 := Lib.hid hA4; clear hO4 hB4 hb4 hA4)
    | (go_at_call 15; refine (rsame_l _ base2 v4 _ l _ HO4.out HN.out (HM.out.below HB4.out)).mono ?_; rintro e w5 ⟨rfl, hB5⟩; have hb5 := HB4.out.trans (hB5.mono HB4.out.size); have hA5 := And.intro (HA4.out.1.below hB5 HA4.out.1.lt) (HA4.out.2.below hB5 HA4.out.2.lt); have HB5 := Lib.hid hb5; have HA5 := Lib.hid hA5; clear hB5 hb5 hA5)
    | (go_at_call 34; refine (len_any' base p most v l _ (HS.out.below HB5.out)).mono ?_; rintro e w6 ⟨rfl, rfl⟩)
    | (go_at_call 18; refine (count_any' base p most v l _ (HS.out.below HB5.out) HN.out HGd.out).mono ?_; rintro e w7 ⟨rfl, hB7⟩; have hb7 := HB5.out.trans (hB7.mono HB5.out.size); have hA7 := And.intro (HA5.out.1.below hB7 HA5.out.1.lt) (HA5.out.2.below hB7 HA5.out.2.lt); have HB7 := Lib.hid hb7; have HA7 := Lib.hid hA7; clear hB7 hb7 hA7)
    | (go_at_call 35; refine (rcount_any base2 _ l _ (HM.out.below HB7.out) HN.out HGd.out).mono ?_; rintro e w8 ⟨rfl, hB8⟩; have hb8 := HB7.out.trans (hB8.mono HB7.out.size); have hA8 := And.intro (HA7.out.1.below hB8 HA7.out.1.lt) (HA7.out.2.below hB8 HA7.out.2.lt); have HB8 := Lib.hid hb8; have HA8 := Lib.hid hA8; clear hB8 hb8 hA8)
    | (go_at_call 17; refine (has_any' base p most v l _ (HS.out.below HB8.out) HN.out HGd.out n).mono ?_; rintro e w9 ⟨rfl, hB9⟩; have hb9 := HB8.out.trans (hB9.mono HB8.out.size); have hA9 := And.intro (HA8.out.1.below hB9 HA8.out.1.lt) (HA8.out.2.below hB9 HA8.out.2.lt); have HB9 := Lib.hid hb9; have HA9 := Lib.hid hA9; clear hB9 hb9 hA9)
    | (go_at_call 36; refine (rhas_any base2 _ l _ (HM.out.below HB9.out) HN.out n).mono ?_; rintro e w10 ⟨rfl, hB10⟩; have hb10 := HB9.out.trans (hB10.mono HB9.out.size); have hA10a := HA9.out.1.below hB10 HA9.out.1.lt; have hA10b := HA9.out.2.below hB10 HA9.out.2.lt; have d0 := hA10a.cell 0; have d1 := hA10a.cell 1; have d2 := hA10b.cell 0; have d3 := hA10b.cell 1; simp at d0 d1 d2 d3; have HB10 := Lib.hid hb10; clear hB10 hb10 hA10a hA10b))
  go_ret
  exact ⟨rfl, HB10.out⟩
set_option maxHeartbeats 4000000 in
set_option maxRecDepth 100000 in
theorem same_some (base p : Nat) (most : Int) (v : Value) (l : RL) (w : World) (hs : SetV w base p most v l) (hn : l.length ≤ 2000000) (hg : Gd l) (base2 : Nat) (mv : Value) (hm : OwnL w base2 mv l) (n to x : Int) (ok2 : Bool) (hlv : lastV l = #[.int .u64 x, .bool ok2]) (r : Int × Int) (hr : l[l.length - 1]? = some r) (hx : x = r.2 - 1) (hk : ok2 = true) :
    Calls Try.prog 23 #[.pointer (some ⟨p, 0, none⟩), mv, .int .u64 n, .int .u64 to] w (SaysB true w) := by
  obtain ⟨a, b, ok, hg1, hg2⟩ := gapV_form l n to
  have hG := fun W (hB : Below w.heap.size w W) => gap_any' base p most v l W (hs.below hB) hn hg n to
  rw [hg1] at hG
  have hR := fun W (hB : Below w.heap.size w W) => rgap_any base2 mv l W (hm.below hB) hn n to
  rw [hg2] at hR
  have hL := fun W (hB : Below w.heap.size w W) => largest_any' base p most v l W (hs.below hB) hn hg
  rw [hlv] at hL
  have HG := Lib.hid hG
  have HR := Lib.hid hR
  have HLg := Lib.hid hL
  have HS := Lib.hid hs
  have HM := Lib.hid hm
  have HGd := Lib.hid hg
  have hre := run_rng
  have hgd := rng_guard
  have HN := Lib.hid hn
  obtain ⟨A, c, rfl, hnc, hcm⟩ := hm.shape
  subst hk
  have hlt := (List.getElem?_eq_some_iff.1 hr).1
  obtain ⟨g, rfl⟩ := hm.at_ hr
  have hok := hg.1 r (List.mem_of_getElem? hr)
  unfold OkR at hok
  obtain ⟨N, hNl⟩ : ∃ N, l.length = N := ⟨_, rfl⟩
  obtain ⟨j1, hj1⟩ : ∃ j1, N - 1 = j1 := ⟨_, rfl⟩
  rw [hNl] at hnc HM HR hlt hr ⊢
  rw [hj1] at hr
  rw [hNl] at hn
  have hw1 : IntKind.i64.wrap ((N : Int) - 1) = (j1 : Int) := by rw [IntKind.wrap_i64]; omega
  have hj1z : (j1 : Int) < (N : Int) := by omega
  have hN0 : (0 : Int) < (N : Int) := by omega
  have hw2 : IntKind.u64.wrap (r.2 - 1) = x := by rw [IntKind.wrap_u64]; omega
  have HR1 := Lib.hid hr
  have HE := Lib.hid (fun W (hB : Below w.heap.size w W) => ((hm.below hB).el HR1.out).2)
  obtain ⟨r0, r1⟩ := r
  dsimp only at hw2
  clear hr hx hj1 hlt hok
  clear hG hR hL hs hm hg hg1 hg2 hlv
  go_enter Try.func23, Try.ntmps23
  go_wp2_with (first
    | (go_at_call 19; refine (HG.out w (Below.refl _ _)).mono ?_; rintro e w1 ⟨rfl, hB1⟩; have hBA1 := hB1.alloc hB1.size (.cells #[.int .u64 a, .int .u64 b] 41); have HBA1 := Lib.hid hBA1; have HA1 := Lib.hid (At.new w1 41 [.int .u64 a, .int .u64 b]); clear hB1 hBA1)
    | (go_at_call 32; refine (HR.out _ HBA1.out).mono ?_; rintro e w2 ⟨rfl, hB2⟩; have hb2 := HBA1.out.trans (hB2.mono HBA1.out.size); have hBA2 := hb2.alloc hb2.size (.cells #[.int .u64 a, .int .u64 b] 41); have hA1 := HA1.out.below hB2 (by simp); have hA1b := hA1.alloc (.cells #[.int .u64 a, .int .u64 b] 41); have HBA2 := Lib.hid hBA2; have HA2 := Lib.hid (And.intro hA1b (At.new w2 41 [.int .u64 a, .int .u64 b])); clear hB2 hb2 hBA2 hA1 hA1b)
    | (go_at_call 33; refine (HLg.out _ HBA2.out).mono ?_; rintro e w3 ⟨rfl, q, hw3⟩; have hb3 : Below w.heap.size w w3 := (hw3 ▸ below_dr HBA2.out q); have hA3 : At w3 w1.heap.size 41 [.int .u64 a, .int .u64 b] ∧ At w3 w2.heap.size 41 [.int .u64 a, .int .u64 b] := (hw3 ▸ ⟨HA2.out.1.drewN q, HA2.out.2.drewN q⟩); have HB3 := Lib.hid hb3; have HA3 := Lib.hid hA3; have he := HE.out _ hb3; (try simp only at he); clear hb3 hA3 hw3)
    | (go_at_call 16; refine (all_any' base p most v l _ (HS.out.below HB3.out) HN.out).mono ?_; rintro e w4 ⟨v4, rfl, hO4, hB4⟩; have hb4 := HB3.out.trans (hB4.mono HB3.out.size); have hA4 := And.intro (HA3.out.1.below hB4 HA3.out.1.lt) (HA3.out.2.below hB4 HA3.out.2.lt); have HO4 := Lib.hid hO4; have HB4 := Lib.hid hb4; have HA4 := Lib.hid hA4; clear hO4 hB4 hb4 hA4)
    | (go_at_call 15; refine (rsame_l _ base2 v4 _ l _ HO4.out HN.out (HM.out.below HB4.out)).mono ?_; rintro e w5 ⟨rfl, hB5⟩; have hb5 := HB4.out.trans (hB5.mono HB4.out.size); have hA5 := And.intro (HA4.out.1.below hB5 HA4.out.1.lt) (HA4.out.2.below hB5 HA4.out.2.lt); have HB5 := Lib.hid hb5; have HA5 := Lib.hid hA5; clear hB5 hb5 hA5)
    | (go_at_call 34; refine (len_any' base p most v l _ (HS.out.below HB5.out)).mono ?_; rintro e w6 ⟨rfl, rfl⟩)
    | (go_at_call 18; refine (count_any' base p most v l _ (HS.out.below HB5.out) HN.out HGd.out).mono ?_; rintro e w7 ⟨rfl, hB7⟩; have hb7 := HB5.out.trans (hB7.mono HB5.out.size); have hA7 := And.intro (HA5.out.1.below hB7 HA5.out.1.lt) (HA5.out.2.below hB7 HA5.out.2.lt); have HB7 := Lib.hid hb7; have HA7 := Lib.hid hA7; clear hB7 hb7 hA7)
    | (go_at_call 35; refine (rcount_any base2 _ l _ (HM.out.below HB7.out) HN.out HGd.out).mono ?_; rintro e w8 ⟨rfl, hB8⟩; have hb8 := HB7.out.trans (hB8.mono HB7.out.size); have hA8 := And.intro (HA7.out.1.below hB8 HA7.out.1.lt) (HA7.out.2.below hB8 HA7.out.2.lt); have HB8 := Lib.hid hb8; have HA8 := Lib.hid hA8; clear hB8 hb8 hA8)
    | (go_at_call 17; refine (has_any' base p most v l _ (HS.out.below HB8.out) HN.out HGd.out n).mono ?_; rintro e w9 ⟨rfl, hB9⟩; have hb9 := HB8.out.trans (hB9.mono HB8.out.size); have hA9 := And.intro (HA8.out.1.below hB9 HA8.out.1.lt) (HA8.out.2.below hB9 HA8.out.2.lt); have HB9 := Lib.hid hb9; have HA9 := Lib.hid hA9; clear hB9 hb9 hA9)
    | (go_at_call 36; refine (rhas_any base2 _ l _ (HM.out.below HB9.out) HN.out n).mono ?_; rintro e w10 ⟨rfl, hB10⟩; have hb10 := HB9.out.trans (hB10.mono HB9.out.size); have hA10a := HA9.out.1.below hB10 HA9.out.1.lt; have hA10b := HA9.out.2.below hB10 HA9.out.2.lt; have d0 := hA10a.cell 0; have d1 := hA10a.cell 1; have d2 := hA10b.cell 0; have d3 := hA10b.cell 1; simp at d0 d1 d2 d3; have HB10 := Lib.hid hb10; clear hB10 hb10 hA10a hA10b))
  go_ret
  exact ⟨rfl, HB10.out⟩
theorem same_any (base p : Nat) (most : Int) (v : Value) (l : RL) (w : World) (hs : SetV w base p most v l) (hn : l.length ≤ 2000000) (hg : Gd l) (base2 : Nat) (mv : Value) (hm : OwnL w base2 mv l) (n to : Int) :
    Calls Try.prog 23 #[.pointer (some ⟨p, 0, none⟩), mv, .int .u64 n, .int .u64 to] w (SaysB true w) := by
  cases h : l.getLast? with
  | none =>
    have h0 : l = [] := List.getLast?_eq_none_iff.1 h
    exact same_none base p most v l w hs hn hg base2 mv hm n to 0 false (by unfold lastV; rw [h]) (by rw [h0]; rfl) rfl rfl
  | some r =>
    exact same_some base p most v l w hs hn hg base2 mv hm n to (r.2 - 1) true (by unfold lastV; rw [h]) r (by rw [← List.getLast?_eq_getElem?]; exact h) rfl rfl
end Go.Proofs.Ytoooinjhcgpbgaa
