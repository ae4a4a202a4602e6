/-
  The ranges that are drawn (narthexkeep.Ranges): a row of the call's own.
-/
import Derived.Test.YtpihgikcgkipaaaUe
namespace Go.Proofs.Ytpihgikcgkipaaa
set_option linter.unusedVariables false
set_option linter.unusedSimpArgs false
open Go.RowKit
/-- A slice of numbers that can be read. -/
structure UnP (w : World) (A : Option Addr) (n : Nat) (xs : List Int) : Prop where
  len : xs.length = n
  wd : ∀ x ∈ xs, 0 ≤ x ∧ x < 18446744073709551616
  at_ : 0 < n → ∃ b off, A = some ⟨b, off, none⟩ ∧ b < w.heap.size ∧ ∀ i x, xs[i]? = some x → w.cell? ⟨b, off + i, none⟩ = some (.int .u64 x)
theorem UnP.below {w w' : World} {A : Option Addr} {n : Nat} {xs : List Int} (h : UnP w A n xs) (k : Below w.heap.size w w') : UnP w' A n xs := ⟨h.len, h.wd, fun hn => by
  obtain ⟨b, off, e, hb, hc⟩ := h.at_ hn
  exact ⟨b, off, e, Nat.lt_of_lt_of_le hb k.size, fun i x hi => (k.cell (p := ⟨b, _, none⟩) hb).trans (hc i x hi)⟩⟩
theorem UnP.nil_ (w : World) (A : Option Addr) : UnP w A 0 [] := ⟨rfl, fun x h => (by cases h), fun h => absurd h (by omega)⟩
structure KrU (w : World) (from_ : Int) (j : Nat) (v : Value) (wr : World) (at_ : Int) (rs : RL) : Prop where
  own : OwnL wr w.heap.size v rs
  len : rs.length = j
  a0 : from_ ≤ at_
  a1 : at_ ≤ from_ + 51 * j
  bl : Below w.heap.size w wr
def KrPostU (w : World) (e : Ending) (w' : World) : Prop := ∃ v rs, e = .returned v ∧ OwnL w' w.heap.size v rs ∧ rs.length ≤ 16 ∧ Below w.heap.size w w'
set_option maxRecDepth 100000 in
set_option maxHeartbeats 4000000 in
theorem kranges11_any (A : Option Addr) (n c : Nat) (xs : List Int) (from_ : Int) (w : World) (hu : UnP w A n xs) (hnc : n ≤ c) (hcm : c ≤ maxLen) (h0 : 0 ≤ from_) (h1 : from_ < 4611686018427387910) :
    Calls Try.prog 11 #[.slice A n c, .int .u64 from_] w (KrPostU w) := by
  have HU := Lib.hid hu
  unfold maxLen at hcm
  have HI : Hid (KrU w from_ 0 (.slice none 0 0) w from_ []) := Lib.hid ⟨OwnL.nil_ _ _, rfl, Int.le_refl _, by simp, Below.refl _ _⟩
  clear hu
  go_enter Try.func11, Try.ntmps11
  go_wp2
  go_loopg [5, 6, 7] n (fun kx o t i wr => ∃ (j ii : Nat) (A' : Option Addr) (n' c' : Nat) (a : Int) (rs : RL), o = .slice A' n' c' ∧ t = .int .u64 a ∧ i = .int .i64 ii ∧ ii = 2 * j ∧ j ≤ 16 ∧ ii ≤ n + 1 ∧ n' = j ∧ n + 1 - ii ≤ kx + 1 ∧ Hid (KrU w from_ j (.slice A' n' c') wr a rs))
  case atStart => exact ⟨0, 0, _, _, _, _, _, rfl, rfl, rfl, rfl, by omega, by omega, rfl, by omega, HI⟩
  case round =>
    clear HI
    obtain ⟨j, ii, A', n', c', a, rs, rfl, rfl, rfl, hij, hj16, hin, hnj, hkx, hat⟩ := hrel
    subst hnj; subst hij
    have ha0 := hat.out.a0
    have ha1 := hat.out.a1
    have hlen := hat.out.len
    by_cases hgo : (2 * n') + 1 < n ∧ n' < 16
    · obtain ⟨g1, g2⟩ := hgo
      have hu2 := HU.out.below hat.out.bl
      obtain ⟨b, off, rfl, hb, hc⟩ := hu2.at_ (by omega)
      obtain ⟨x, hx⟩ : ∃ x, xs[(2 * n')]? = some x := ⟨_, List.getElem?_eq_getElem (by rw [HU.out.len]; omega)⟩
      obtain ⟨y, hy⟩ : ∃ y, xs[(2 * n') + 1]? = some y := ⟨_, List.getElem?_eq_getElem (by rw [HU.out.len]; omega)⟩
      have hxb' := HU.out.wd x (List.mem_of_getElem? hx)
      have hyb' := HU.out.wd y (List.mem_of_getElem? hy)
      have cx := hc (2 * n') x hx
      have cy := hc ((2 * n') + 1) y hy
      have tx : x.tmod 30 = x % 30 := Int.tmod_eq_emod_of_nonneg hxb'.1
      have ty : y.tmod 20 = y % 20 := Int.tmod_eq_emod_of_nonneg hyb'.1
      obtain ⟨x30, hx30⟩ : ∃ z, x % 30 = z := ⟨_, rfl⟩
      obtain ⟨y20, hy20⟩ : ∃ z, y % 20 = z := ⟨_, rfl⟩
      have bx : 0 ≤ x30 ∧ x30 < 30 := by omega
      have by_ : 0 ≤ y20 ∧ y20 < 20 := by omega
      have hwd : WdL [(a + x30, a + x30 + 1 + y20)] := WdL.one (by omega) (by omega) (by omega) (by omega)
      have hB2 := hat.out.bl.alloc hat.out.bl.size (.cells #[.int .u64 (a + x30), .int .u64 (a + x30 + 1 + y20)] 38)
      have hO2 := hat.out.own.kept ((Kept.refl (fun _ => False) wr).alloc (.cells #[.int .u64 (a + x30), .int .u64 (a + x30 + 1 + y20)] 38)) (fun _ _ h => h)
      have hF2 : OwnF (wr.alloc (.cells #[.int .u64 (a + x30), .int .u64 (a + x30 + 1 + y20)] 38)) w.heap.size (.slice A' n' c') n' (rlC rs) := by have := hO2.own; rw [hlen] at this; exact this
      have hN2 := At.new wr 38 [.int .u64 (a + x30), .int .u64 (a + x30 + 1 + y20)]
      have HF2 := Lib.hid hF2
      have HB2 := Lib.hid hB2
      have HN2 := Lib.hid hN2
      have HWD := Lib.hid (And.intro hat.out.own.wd hwd)
      have hsz := hat.out.bl.size
      clear hat hc hx hy hwd hB2 hO2 hF2 hN2 hu2
      go_wp2_with (first | (at_builtin; refine wpList_append2 rfl (.tmp 39) (.tmp 43) rfl w.heap.size (.slice A' n' c') n' (rlC rs) (by rfl) HF2.out (some ⟨wr.heap.size, 0, none⟩) 1 1 (by rfl) [.int .u64 (a + x30), .int .u64 (a + x30 + 1 + y20)] rfl (fun _ => ⟨_, rfl, fun q u hq => by rw [Addr.add_lit, Nat.zero_add]; exact (HN2.out.cell q).trans hq⟩) (fun u hu => by simp at hu; rcases hu with rfl | rfl <;> rfl) (by omega) (by simp; omega) ?_; intro v7 w7 hown7 hgr7 hv7 _) | fail)
      have hb7 : Below w.heap.size w w7 := (Kept.of_grown (S := fun k => (Value.slice A' n' c').ownBlock = some k) hgr7 (fun k hk => .inl hk)).below HB2.out HB2.out.size (fun k hk => (ownF_lt HF2.out k hk).1)
      obtain ⟨A7, c7, rfl, _, _, _, _⟩ := ownF_open hown7
      have HF : Hid (KrU w from_ (n' + 1) (.slice A7 (n' + 1) c7) w7 (a + x30 + 1 + y20 + 1) (rs ++ [(a + x30, a + x30 + 1 + y20)])) := Lib.hid
        ⟨⟨by rw [show (rs ++ [(a + x30, a + x30 + 1 + y20)]).length = n' + 1 by simp [hlen], rlC_app]; exact hown7, HWD.out.1.app HWD.out.2⟩, by simp [hlen], by omega, by simp only [Int.natCast_add, Int.natCast_one]; omega, hb7⟩
      clear hown7 hgr7 hv7 hb7 HF2 HB2 HN2 HWD cx cy
      go_wp2_with fail
      go_roundg (n - (2 * n' + 2))
      case measure => omega
      case rel => exact ⟨n' + 1, (2 * n') + 2, _, _, _, _, _, rfl, rfl, by go_num, by omega, by omega, by omega, rfl, by omega, HF⟩
    · have hcase : ¬ ((2 * n') + 1 < n) ∨ (((2 * n') + 1 < n) ∧ n' = 16) := by omega
      have HOW := Lib.hid hat.out.own
      have HBL := Lib.hid hat.out.bl
      clear hat
      rcases Nat.eq_zero_or_pos n' with h0n | h0n
      · subst h0n
        have hstop : ¬ (2 * 0 + 1 < n) := fun h => hgo ⟨h, by omega⟩
        have HO1 := Lib.hid (OwnL.one wr w.heap.size wr.heap.size from_ (from_ + 1) rfl HBL.out.size (WdL.one (by omega) (by omega) (by omega) (by omega)))
        have HB1 := Lib.hid (HBL.out.alloc HBL.out.size (.cells #[.int .u64 from_, .int .u64 (from_ + 1)] 38))
        clear hcase hgo
        go_wp2_with fail
        go_ret
        exact ⟨_, _, rfl, HO1.out, by simp, HB1.out⟩
      · rcases hcase with hstop | ⟨hs1, hs2⟩
        · clear hgo
          go_wp2_with fail
          go_ret
          exact ⟨_, _, rfl, HOW.out, by omega, HBL.out⟩
        · subst hs2
          clear hgo
          go_wp2_with fail
          go_ret
          exact ⟨_, _, rfl, HOW.out, by omega, HBL.out⟩
end Go.Proofs.Ytpihgikcgkipaaa
