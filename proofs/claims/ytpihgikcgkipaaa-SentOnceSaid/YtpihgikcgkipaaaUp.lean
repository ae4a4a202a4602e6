/-
  sent: slices.Delete of one packet, Take.
-/
import Derived.Test.YtpihgikcgkipaaaUj
import Derived.Deep.RegionLaw
import Derived.Shelf.RegionOpenPlain
import Derived.BigRegion
namespace Go.Proofs.Ytpihgikcgkipaaa
set_option linter.unusedVariables false
set_option linter.unusedSimpArgs false
open Go.RowKit
set_option maxHeartbeats 2000000 in
set_option maxRecDepth 100000 in
theorem pdel_any (base : Nat) (v : Value) (l : PL) (i : Nat) (w : World) (hl : OwnP w base v l) (hi : i < l.length) (hN : l.length ≤ 100000) (hb : base ≤ w.heap.size) :
    Calls Try.prog 36 #[v, .int .i64 i, .int .i64 ((i : Int) + 1)] w (fun e w' => ∃ v', e = .returned v' ∧ OwnP w' base v' (l.take i ++ l.drop (i + 1)) ∧ Kept (fun j => v.ownBlock = some j) w w' ∧ v'.ownBlock = v.ownBlock) := by
  obtain ⟨A, c, rfl, hnc, hcm, hx, ho⟩ := ownG_open hl
  rcases ho with ⟨_, h, _⟩ | ⟨g, cur, rfl, hbg, hg, hA, hcl, hct⟩
  · omega
  have HLE := Lib.hid (show (l.take i ++ l.drop (i + 1)).length = l.length - 1 by simp; omega)
  have HX := Lib.hid (show plC (l.take i ++ l.drop (i + 1)) = (plC l).take (i * 5) ++ (plC l).drop ((i + 1) * 5) by rw [plC_app, plC_take, plC_drop])
  have hown : OwnG w base (.slice (some ⟨g, 0, none⟩) i c) i ((plC l).take (i * 5)) := ownG_mk (by rw [List.length_take, hx]; omega) hbg hA (by omega) hcm hcl (by rw [← hct, List.take_take]; congr 1; omega)
  have hsrc : ∀ j u, ((plC l).drop ((i + 1) * 5))[j]? = some u → w.cell? ((⟨g, (i + 1) * 5, none⟩ : Addr).add j) = some u := fun j u hj => by
    rw [Addr.add_lit, hA.cell]
    rw [List.getElem?_drop, ← hct, List.getElem?_take] at hj
    split at hj
    · exact hj
    · cases hj
  have hsl : ((plC l).drop ((i + 1) * 5)).length = (l.length - (i + 1)) * 5 := by rw [List.length_drop, hx]; omega
  have hs1 : ∀ u ∈ (plC l).drop ((i + 1) * 5), u.oneCell' = true := fun u hu => plC_one l u (List.mem_of_mem_drop hu)
  have hcm' : c ≤ 9223372036854775807 := by unfold maxLen at hcm; omega
  have HHX := Lib.hid hx
  clear hl hct
  generalize l.length = n at *
  have hnz : (n : Int) ≤ (c : Int) := by omega
  have hiz : (i : Int) + 1 ≤ (n : Int) := by omega
  have hne : ¬ (i : Int) = (i : Int) + 1 := by omega
  have hcast : ((i + 1 : Nat) : Int) = (i : Int) + 1 := by omega
  rw [← hcast] at hiz hne ⊢
  clear hcast
  obtain ⟨k, hk⟩ : ∃ k, i + 1 = k := ⟨_, rfl⟩
  rw [hk] at hsrc hsl hs1 HX HLE hiz hne ⊢
  have hik : i < k := by omega
  have HK := Lib.hid hk
  have hkn : k ≤ n := by omega
  clear hk
  have hck : ¬ c = i := by omega
  have hic : i ≤ c := by omega
  have hik2 : i ≤ k := by omega
  have mixed : Try.prog.follows .mixedOrders = true := by kernel_rfl
  go_enter Try.func36, Try.ntmps36
  have hown' : OwnG w.drew base (.slice (some ⟨g, 0, none⟩) i c) i ((plC l).take (i * 5)) := ownG_keep hown fun _ _ => rfl
  have hb' : base ≤ w.drew.heap.size := hb
  clear hown
  have hsrc' : ∀ j u, ((plC l).drop (k * 5))[j]? = some u → w.drew.cell? ((⟨g, k * 5, none⟩ : Addr).add j) = some u := hsrc
  clear hsrc
  by_cases hck2 : c = k
  · obtain rfl : c = k := hck2
    obtain rfl : n = c := by omega
    have hsl0 : ((plC l).drop (n * 5)).length = 0 * 5 := by rw [hsl]; omega
    go_wp2_with fail
    go_region_law_o (refine step_appendP rfl (.tmp 22) (.tmp 25) rfl base (.slice (some ⟨g, 0, none⟩) i n) i ((plC l).take (i * 5)) (by simp [Act.eval, Act.put]) hown' (some ⟨g, 0, none⟩) 0 0 (by simp [Act.eval, Act.put]) ((plC l).drop (n * 5)) hsl0 (fun h => absurd h (by omega)) hs1 (by omega) hb' ?_; intro v2 w2 hown2 hg2 hv2 hin2; rw [Nat.add_zero] at hown2 hin2; obtain rfl := hin2 g n rfl (by omega); obtain ⟨A4, c4, e4, _, _, hxl, ho4⟩ := ownG_open hown2; injection e4 with e4 _ e5; subst e4; subst e5; rcases ho4 with ⟨h4, _⟩ | ⟨g3, cur3, e6, hb3, hg3, hA3, hl3, ht3⟩; (cases h4); injection e6 with e6; injection e6 with e6; subst e6)
    have HL3 := Lib.hid hl3
    have HT3 := Lib.hid ht3
    have HXL := Lib.hid hxl
    have HG2 := Lib.hid (And.intro hg2 hb3)
    clear hl3 ht3 hxl hg2 hb3 hown2 hin2 hv2
    have hn1 : i + 1 = n := HK.out
    have hcn1 : ¬ n = i := by omega
    have hnz1 : (i : Int) ≤ (n : Int) := by omega
    go_wp2_with (refine wpList_clearP rfl (.tmp 31) rfl (some ⟨g, i * 5, none⟩) (n - i) (n - i) g (i * 5) cur3 _ rfl hA3 (fun _ => rfl) (by have := HL3.out; omega) ?_; intro w3 zs hzl hA4 hk4)
    go_ret
    refine ⟨.slice (some ⟨g, 0, none⟩) i n, rfl, ?_, (Kept.from_drew (Kept.of_grown (S := fun j => (Value.slice (some ⟨g, 0, none⟩) n n).ownBlock = some j) HG2.out.1 (fun k hk => .inl hk))).trans (hk4.mono fun j hj => .inl (by subst hj; rfl)), rfl⟩
    show OwnG w3 base (.slice (some ⟨g, 0, none⟩) i n) (l.take i ++ l.drop n).length (plC (l.take i ++ l.drop n))
    rw [HLE.out, HX.out, show n - 1 = i by omega]
    refine ownG_mk HXL.out HG2.out.2 hA4 (by omega) hcm (by rw [length_splice _ _ _ (by have := HL3.out; omega)]; exact HL3.out) ?_
    rw [splice_take _ _ _ _ (Nat.le_refl _) (by have := HL3.out; omega)]
    exact HT3.out
  · go_wp2_with fail
    go_region_law_o (refine step_appendP rfl (.tmp 22) (.tmp 25) rfl base (.slice (some ⟨g, 0, none⟩) i c) i ((plC l).take (i * 5)) (by simp [Act.eval, Act.put]) hown' (some ⟨g, k * 5, none⟩) (n - k) (c - k) (by simp [Act.eval, Act.put]) ((plC l).drop (k * 5)) hsl (fun _ => ⟨_, rfl, hsrc'⟩) hs1 (by omega) hb' ?_; intro v2 w2 hown2 hg2 hv2 hin2; obtain rfl := hin2 g c rfl (by omega); obtain ⟨A4, c4, e4, _, _, hxl, ho4⟩ := ownG_open hown2; injection e4 with e4 _ e5; subst e4; subst e5; rcases ho4 with ⟨h4, _⟩ | ⟨g3, cur3, e6, hb3, hg3, hA3, hl3, ht3⟩; (cases h4); injection e6 with e6; injection e6 with e6; subst e6)
    have HL3 := Lib.hid hl3
    have HT3 := Lib.hid ht3
    have HXL := Lib.hid hxl
    have HG2 := Lib.hid (And.intro hg2 hb3)
    clear hl3 ht3 hxl hg2 hb3 hown2 hin2 hv2
    obtain ⟨N1, hN1⟩ : ∃ x, i + (n - k) = x := ⟨_, rfl⟩
    have HN1 := Lib.hid hN1
    have hn1 : N1 + 1 = n := by have := HK.out; omega
    rw [hN1]
    have hcn1 : ¬ c = N1 := by omega
    have hnz1 : (N1 : Int) ≤ (n : Int) := by omega
    have hnz2 : (N1 : Int) ≤ (c : Int) := by omega
    clear hN1
    go_wp2_with (refine wpList_clearP rfl (.tmp 31) rfl (some ⟨g, N1 * 5, none⟩) (n - N1) (c - N1) g (N1 * 5) cur3 _ rfl hA3 (fun _ => rfl) (by have := HL3.out; omega) ?_; intro w3 zs hzl hA4 hk4)
    go_ret
    refine ⟨.slice (some ⟨g, 0, none⟩) N1 c, rfl, ?_, (Kept.from_drew (Kept.of_grown (S := fun j => (Value.slice (some ⟨g, 0, none⟩) n c).ownBlock = some j) HG2.out.1 (fun k hk => .inl hk))).trans (hk4.mono fun j hj => .inl (by subst hj; rfl)), rfl⟩
    show OwnG w3 base (.slice (some ⟨g, 0, none⟩) N1 c) (l.take i ++ l.drop k).length (plC (l.take i ++ l.drop k))
    rw [HLE.out, HX.out, show n - 1 = N1 by omega]
    refine ownG_mk (by rw [HXL.out, HN1.out]) HG2.out.2 hA4 (by omega) hcm (by rw [length_splice _ _ _ (by have := HL3.out; omega)]; exact HL3.out) ?_
    rw [splice_take _ _ _ _ (Nat.le_refl _) (by have := HL3.out; omega)]
    have h9 := HT3.out
    rw [HN1.out] at h9
    exact h9
end Go.Proofs.Ytpihgikcgkipaaa
