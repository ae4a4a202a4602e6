/-
  Params as they are drawn (narthexkeep.Params); some of the runs (known).
-/
import Derived.Test.YtdakbedohjemeaaMq19
import Derived.Test.YtdakbedohjemeaaMq11
import Derived.Test.YtdakbedohjemeaaMq0
import Derived.Test.YtdakbedohjemeaaMq2
import Derived.WalkKit
import Derived.SizedLaws
namespace Go.Proofs.Ytdakbedohjemeaa
section
set_option linter.unusedVariables false
set_option linter.unusedSimpArgs false
open Go.RowKit Go.ChangeShapes Go.WideShapes Go.Deep
def kpS (a b c d n : Int) : PN := ⟨smallS a % 1073741825, smallS b % 1099511627777, smallS c % 1099511627777, smallS d % 1048577, ⟨1, cidX n, 7, 0, 0, 0, 0, 0⟩⟩
theorem cidX_bdp (n : Int) : 0 ≤ cidX n ∧ cidX n < 5 := by
  have := withinS_bd n 0 1048576 (by decide)
  unfold cidX; omega
theorem kpS_right (a b c d n : Int) : prightB (kpS a b c d n) = true := by
  unfold prightB kpS
  simp only [decide_eq_true_eq]
  omega
theorem kpS_wf (a b c d n : Int) : (kpS a b c d n).wf := by
  have := cidX_bdp n
  constructor
  · show 0 ≤ smallS a % 1073741825; omega
  · show smallS a % 1073741825 < _; omega
  · show 0 ≤ smallS b % 1099511627777; omega
  · show smallS b % 1099511627777 < _; omega
  · show 0 ≤ smallS c % 1099511627777; omega
  · show smallS c % 1099511627777 < _; omega
  · show 0 ≤ smallS d % 1048577; omega
  · show smallS d % 1048577 < _; omega
  · intro x hx
    simp only [kpS, N8.l, List.mem_cons, List.not_mem_nil, or_false] at hx
    omega
set_option maxRecDepth 100000 in
set_option maxHeartbeats 1000000 in
theorem kparams_any (a b c d n : Int) (w : World) (ha : 0 ≤ a ∧ a < 18446744073709551616) (hb : 0 ≤ b ∧ b < 18446744073709551616) (hc : 0 ≤ c ∧ c < 18446744073709551616) (hd : 0 ≤ d ∧ d < 18446744073709551616) (hn0 : -9223372036854775808 ≤ n) (hn1 : n ≤ 9223372036854775807) :
    Calls Try.prog 13 #[.int .u64 a, .int .u64 b, .int .u64 c, .int .u64 d, .int .i64 n] w (FrPost (pmV (kpS a b c d n)) w) := by
  have hB0 : Below w.heap.size w (w.alloc (.cells (pmL .zero).toArray 26)) := (Below.refl _ _).alloc (Nat.le_refl _) _
  have hA0 : At (w.alloc (.cells (pmL .zero).toArray 26)) w.heap.size 26 (pmL .zero) := At.new w _ _
  have sa := fun W => small_any a W ha.1 ha.2
  have sb := fun W => small_any b W hb.1 hb.2
  have sc := fun W => small_any c W hc.1 hc.2
  have sd := fun W => small_any d W hd.1 hd.2
  have sn := fun W => cidk_any n W hn0 hn1 (withinS_bd n 0 1048576 (by decide))
  have ba := smallS_bd a ha.1
  have bb := smallS_bd b hb.1
  have bc := smallS_bd c hc.1
  have bd := smallS_bd d hd.1
  have hK : kpS a b c d n = ⟨smallS a % 1073741825, smallS b % 1099511627777, smallS c % 1099511627777, smallS d % 1048577, ⟨1, cidX n, 7, 0, 0, 0, 0, 0⟩⟩ := rfl
  obtain ⟨xa, hxa⟩ : ∃ x, smallS a = x := ⟨_, rfl⟩
  obtain ⟨xb, hxb⟩ : ∃ x, smallS b = x := ⟨_, rfl⟩
  obtain ⟨xc, hxc⟩ : ∃ x, smallS c = x := ⟨_, rfl⟩
  obtain ⟨xd, hxd⟩ : ∃ x, smallS d = x := ⟨_, rfl⟩
  obtain ⟨xn, hxn⟩ : ∃ x, cidX n = x := ⟨_, rfl⟩
  rw [hxa] at sa ba hK
  rw [hxb] at sb bb hK
  rw [hxc] at sc bc hK
  rw [hxd] at sd bd hK
  rw [hxn] at sn hK
  have ta : xa.tmod 1073741825 = xa % 1073741825 := Int.tmod_eq_emod_of_nonneg ba.1
  have tb : xb.tmod 1099511627777 = xb % 1099511627777 := Int.tmod_eq_emod_of_nonneg bb.1
  have tc : xc.tmod 1099511627777 = xc % 1099511627777 := Int.tmod_eq_emod_of_nonneg bc.1
  have td : xd.tmod 1048577 = xd % 1048577 := Int.tmod_eq_emod_of_nonneg bd.1
  obtain ⟨ya, hya⟩ : ∃ x, xa % 1073741825 = x := ⟨_, rfl⟩
  obtain ⟨yb, hyb⟩ : ∃ x, xb % 1099511627777 = x := ⟨_, rfl⟩
  obtain ⟨yc, hyc⟩ : ∃ x, xc % 1099511627777 = x := ⟨_, rfl⟩
  obtain ⟨yd, hyd⟩ : ∃ x, xd % 1048577 = x := ⟨_, rfl⟩
  have za : 0 ≤ ya ∧ ya < 1073741825 := by omega
  have zb : 0 ≤ yb ∧ yb < 1099511627777 := by omega
  have zc : 0 ≤ yc ∧ yc < 1099511627777 := by omega
  have zd : 0 ≤ yd ∧ yd < 1048577 := by omega
  rw [hya] at ta hK
  rw [hyb] at tb hK
  rw [hyc] at tc hK
  rw [hyd] at td hK
  rw [hK]
  clear hxa hxb hxc hxd hxn hK hya hyb hyc hyd
  obtain ⟨za0, za1⟩ := za
  obtain ⟨zb0, zb1⟩ := zb
  obtain ⟨zc0, zc1⟩ := zc
  obtain ⟨zd0, zd1⟩ := zd
  have hg0 := hA0.lt
  go_enter Try.func13, Try.ntmps13
  go_wp2_with fail
  refine (sa _).mono ?_
  rintro e w1 ⟨rfl, hb1⟩
  have hA1 := hA0.below hb1 hg0
  have hB1 := hB0.trans (hb1.mono hB0.size)
  clear hA0 hB0 hb1
  go_wp2_with fail
  refine (sb _).mono ?_
  rintro e w2 ⟨rfl, hb2⟩
  have hA2 := hA1.below hb2 hA1.lt
  have hB2 := hB1.trans (hb2.mono hB1.size)
  clear hA1 hB1 hb2
  go_wp2_with fail
  refine (sc _).mono ?_
  rintro e w3 ⟨rfl, hb3⟩
  have hA3 := hA2.below hb3 hA2.lt
  have hB3 := hB2.trans (hb3.mono hB2.size)
  clear hA2 hB2 hb3
  go_wp2_with fail
  refine (sd _).mono ?_
  rintro e w4 ⟨rfl, hb4⟩
  have hA4 := hA3.below hb4 hA3.lt
  have hB4 := hB3.trans (hb4.mono hB3.size)
  clear hA3 hB3 hb4
  go_wp2_with fail
  refine (sn _).mono ?_
  rintro e w5 ⟨rfl, hb5⟩
  have hA5 := hA4.below hb5 hA4.lt
  have hB5 := hB4.trans (hb5.mono hB4.size)
  have hg5 := hA5.lt
  clear hA4 hB4 hb5
  go_wp2_with (first | ((with_reducible refine at_stp ?_); refine st_pm _ _ (pmL ⟨ya, yb, yc, yd, ⟨1, xn, 7, 0, 0, 0, 0, 0⟩⟩) (by rfl) (by rfl) hA5 (by rfl) (by rfl) (by rfl) ?_; intro w9 hA9 hk9) | fail)
  refine bodyPost_ret (results_cell 10 26 (by rfl) _ 26 _ _ (by rfl) hA9 Try.underlying26 rfl pm_info) rfl ?_
  exact ⟨rfl, hk9.below hB5 (by omega) (fun j hj => by omega)⟩
end
section
set_option linter.unusedVariables false
set_option linter.unusedSimpArgs false
open Go.RowKit Go.ChangeShapes Go.WideShapes Go.Deep
/-- A slice of signed numbers that can be read. -/
structure InN (w : World) (A : Option Addr) (n : Nat) (xs : List Int) : Prop where
  len : xs.length = n
  wd : ∀ x ∈ xs, -9223372036854775808 ≤ x ∧ x < 9223372036854775808
  at_ : 0 < n → ∃ b off, A = some ⟨b, off, none⟩ ∧ b < w.heap.size ∧ ∀ i x, xs[i]? = some x → w.cell? ⟨b, off + i, none⟩ = some (.int .i64 x)
theorem InN.below {w w' : World} {A : Option Addr} {n : Nat} {xs : List Int} (h : InN w A n xs) (k : Below w.heap.size w w') : InN w' A n xs := ⟨h.len, h.wd, fun hn => by
  obtain ⟨b, off, e, hb, hc⟩ := h.at_ hn
  exact ⟨b, off, e, Nat.lt_of_lt_of_le hb k.size, fun i x hi => (k.cell (p := ⟨b, _, none⟩) hb).trans (hc i x hi)⟩⟩
theorem InN.nil_ (w : World) (A : Option Addr) : InN w A 0 [] := ⟨rfl, fun x h => (by cases h), fun h => absurd h (by omega)⟩
/-- What a reading of a row of signed numbers says. -/
theorem inN_of_trod {H : Type} {enc : TypeId × Value → H} {P : Program} {w : World} {t e : TypeId} {fuel : Nat} {cs : List Value} {x : DataW H × List MemPlace} (ht : P.underlying t = some (.slice e)) (he : P.underlying e = some (.int .i64)) (hc : P.cellsOf e = 1)
    (h : DataW.trod enc P w 0 (fun _ => true) true fuel t cs = some x) :
    ∃ A len cap xs, cs = [.slice A len cap] ∧ InN w A len xs ∧ len ≤ cap ∧ cap ≤ maxLen ∧ ((x.1 = .nil ∧ cap = 0) ∨ ∃ es sp, x.1 = .slice es sp ∧ es.length + sp.length = cap) := by
  rcases open_ints ht he hc h with ⟨hcs, hx⟩ | ⟨x', l, c, zs, hcs, _, hl, hm, hz, hx, hcell, hwz⟩
  · exact ⟨none, 0, 0, [], hcs, InN.nil_ _ _, Nat.le_refl _, by unfold maxLen; omega, .inl ⟨by rw [hx], rfl⟩⟩
  · have hz' : zs.length = c := by simpa using hz
    refine ⟨_, _, _, zs.take l, hcs, ⟨by rw [List.length_take]; omega, fun y hy => by have := bounds_i64 (hwz y (List.mem_of_mem_take hy)); omega, fun hp => ?_⟩, hl, hm, .inr ⟨_, _, by rw [hx], ?_⟩⟩
    · obtain ⟨b, off, spot⟩ := x'
      have h0 := hcell 0 (by omega)
      have hs : spot = none := by simpa [Addr.add] using World.cell?_spot h0
      subst hs
      rw [addr_add] at h0
      refine ⟨b, off, rfl, cell_lt h0, fun i y hi => ?_⟩
      rw [List.getElem?_take] at hi
      split at hi
      · rename_i hil
        have h2 := hcell i (by omega)
        rw [addr_add] at h2
        rw [h2, List.getD_eq_getElem?_getD, hi]; rfl
      · cases hi
    · simp [lits]
      omega
end
end Go.Proofs.Ytdakbedohjemeaa
