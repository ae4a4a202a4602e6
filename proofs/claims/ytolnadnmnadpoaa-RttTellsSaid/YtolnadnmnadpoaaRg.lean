/-
  RttNumbers and RttTells: their walks.
-/
import Derived.Test.YtolnadnmnadpoaaRf
import Derived.Test.YtolnadnmnadpoaaRefInts
namespace Go.Proofs.Ytolnadnmnadpoaa
set_option linter.unusedVariables false
set_option linter.unusedSimpArgs false
open Go.RowKit
def numR : List Int := [-5, 0, 7, 1, 100, 4095, 4096, 4097, 1099511627776, -9223372036854775808, 9223372036854775807, 3]
theorem numR_wd : Wd64 numR := by
  intro x hx
  simp [numR] at hx
  omega
set_option maxRecDepth 100000 in
set_option maxHeartbeats 4000000 in
theorem rnumbers_law (w : World) : Calls Try.prog 3 #[] w fun e w' => e = .returned (.bool true) ∧ Below w.heap.size w w' := by
  go_enter Try.func3, Try.ntmps3
  go_wp2
  go_loopg [1] 11 (fun kx s1 wr => ∃ (j : Nat), s1 = .int .i64 ((j : Int) - 2) ∧ j ≤ 11 ∧ 11 - j ≤ kx ∧ Hid (Below w.heap.size w wr))
  case atStart => exact ⟨0, by simp, by omega, by omega, Lib.hid (Below.refl _ _)⟩
  case round =>
    obtain ⟨j, rfl, hj, hkx, hB⟩ := hrel
    by_cases hgo : j < 11
    · have hz : (j : Int) - 2 < 9 := by omega
      have hb : Below w.heap.size w (wr.alloc (.cells (numR.map (Value.int .i64)).toArray 2)) := hB.out.alloc hB.out.size _
      have hin : InN (wr.alloc (.cells (numR.map (Value.int .i64)).toArray 2)) (some ⟨wr.heap.size, 0, none⟩) 12 numR := inN_block numR (At.new wr 2 _) numR_wd 12 rfl
      have HB := Lib.hid hb
      have HP := Lib.hid (eplay_any (some ⟨wr.heap.size, 0, none⟩) 12 12 numR ((j : Int) - 2) _ hin (Nat.le_refl _) (by unfold maxLen; omega) (by omega))
      clear hb hin
      go_wp2_with (go_at_call 7; refine HP.out.mono ?_; rintro e w3 ⟨rfl, hB3⟩; have H3 := Lib.hid (HB.out.trans (hB3.mono HB.out.size)); clear hB3)
      go_roundg (11 - (j + 1))
      case measure => omega
      case rel => exact ⟨j + 1, by congr 1; omega, by omega, by omega, H3⟩
    · obtain rfl : j = 11 := by omega
      go_wp2_with (go_at_call 8; refine (eknown_any _).mono ?_; rintro e w3 ⟨rfl, hB3⟩)
      go_ret
      exact ⟨rfl, hB.out.trans (hB3.mono hB.out.size)⟩
/-- What the row of the call's own is, i numbers of it. -/
structure TlR (w0 wr : World) (n i : Nat) (v : Value) (ys : List Int) : Prop where
  own : OwnN wr w0.heap.size v ys
  len : ys.length = i
  bl : Below w0.heap.size w0 wr
set_option maxRecDepth 100000 in
set_option maxHeartbeats 4000000 in
theorem rtells_law (A : Option Addr) (n c : Nat) (xs : List Int) (k : Int) (w : World) (hu : InN w A n xs) (hnc : n ≤ c) (hcm : c ≤ maxLen) (hc8 : c * 8 ≤ 140737488351232) (hk : (Lit.int .i64 k).wf = true) :
    Calls Try.prog 4 #[.slice A n c, .int .i64 k] w fun e w' => e = .returned (.bool true) ∧ Below w.heap.size w w' := by
  have hkb := bounds_i64 hk
  have HK : Hid (-9223372036854775808 ≤ k ∧ k < 9223372036854775808) := Lib.hid (by omega)
  have HU := Lib.hid hu
  have HC := Lib.hid hcm
  unfold maxLen at hcm
  have HI : Hid (TlR w w n 0 (.slice none 0 0) []) := Lib.hid ⟨OwnN.nil_ _ _, rfl, Below.refl _ _⟩
  clear hu hk hkb
  go_enter Try.func4, Try.ntmps4
  go_wp2
  go_loopg [5, 6] n (fun kx s5 s6 wr => ∃ (i : Nat) (A' : Option Addr) (c' : Nat) (ys : List Int), s5 = .slice A' i c' ∧ s6 = .int .i64 i ∧ i ≤ n ∧ n - i ≤ kx ∧ Hid (TlR w wr n i (.slice A' i c') ys))
  case atStart => exact ⟨0, none, 0, _, rfl, rfl, by omega, by omega, HI⟩
  case round =>
    clear HI
    obtain ⟨i, A', c', ys, rfl, rfl, hin, hkx, hT⟩ := hrel
    by_cases hgo : i < n
    · obtain ⟨b, off, rfl, hb, hc⟩ := (HU.out.below hT.out.bl).at_ (by omega)
      obtain ⟨x, hx⟩ : ∃ x, xs[i]? = some x := ⟨_, List.getElem?_eq_getElem (by rw [HU.out.len]; exact hgo)⟩
      have hxb := HU.out.wd x (List.mem_of_getElem? hx)
      have cx := hc i x hx
      clear hc hb hx
      have hiz : (i : Int) < (n : Int) := by omega
      have hyb := withinS_bd x 0 300 (by decide)
      have HW := Lib.hid (fun W => within_any x 0 300 W hxb.1 (by omega) (by decide) (by decide) (by decide))
      obtain ⟨y, hy⟩ : ∃ y, withinS x 0 300 = y := ⟨_, rfl⟩
      rw [hy] at HW hyb
      clear hy
      have hbx := Lib.hid (hT.out.bl.alloc hT.out.bl.size (.cells #[.int .i64 y] 2))
      have hox : Hid (OwnN (wr.alloc (.cells #[.int .i64 y] 2)) w.heap.size (.slice A' i c') ys) := Lib.hid (hT.out.own.below ((Below.refl _ _).alloc (Nat.le_refl _) _))
      have hcy : (wr.alloc (.cells #[.int .i64 y] 2)).cell? ⟨wr.heap.size, 0, none⟩ = some (.int .i64 y) := (At.new wr 2 [.int .i64 y]).cell 0
      have HCY := Lib.hid hcy
      clear hcy
      go_wp2_with (first
        | (go_at_call 9; refine (HW.out _).mono ?_; rintro e w3 ⟨rfl, rfl⟩)
        | (at_builtin; refine wpList_append_n rfl (.tmp 13) (.tmp 19) rfl w.heap.size _ ys rfl hox.out ⟨wr.heap.size, 0, none⟩ 1 rfl y HCY.out (by omega) (by rw [hT.out.len]; omega) hbx.out.size ?_; intro v3 w3 hO3 hg3; have h3 : Hid (TlR w w3 n (i + 1) v3 (ys ++ [y])) := Lib.hid ⟨hO3, by rw [List.length_append, hT.out.len]; rfl, hbx.out.grown hg3 hbx.out.size (fun k hk => (hox.out.lt k hk).1)⟩; clear hO3 hg3))
      obtain ⟨A3, c3, rfl, _, _, _⟩ := h3.out.own.inN
      have hl3 := h3.out.len
      rw [hl3] at h3 ⊢
      clear hl3
      go_roundg (n - (i + 1))
      case measure => omega
      case rel => exact ⟨i + 1, A3, c3, _, rfl, by simp, by omega, by omega, h3⟩
    · obtain rfl : i = n := by omega
      clear hgo
      have hiz : ¬ (i : Int) < (i : Int) := by omega
      have HP := Lib.hid (eplay_any A i c xs k wr (HU.out.below hT.out.bl) hnc HC.out HK.out)
      obtain ⟨A4, c4, he4, h41, h42, h43⟩ := hT.out.own.inN
      rw [hT.out.len] at he4 h41 h43
      injection he4 with e1 _ e3
      subst e1; subst e3
      have H4 := Lib.hid (And.intro h41 (And.intro h42 h43))
      clear h41 h42 h43
      have HQ := Lib.hid (fun (W : World) (hW : Below wr.heap.size wr W) => eplay_any A' i c' ys k W (H4.out.2.2.below hW) H4.out.1 H4.out.2.1 HK.out)
      go_wp2_with (first
        | (go_at_call 7; (with_reducible refine HP.out.mono ?_); rintro e w5 ⟨rfl, hB5⟩; have H5 := Lib.hid hB5; clear hB5)
        | (go_at_call 7; (with_reducible refine (HQ.out _ H5.out).mono ?_); rintro e w6 ⟨rfl, hB6⟩; have H6 := Lib.hid (H5.out.trans (hB6.mono H5.out.size)); clear hB6)
        | (go_at_call 8; refine (eknown_any _).mono ?_; rintro e w7 ⟨rfl, hB7⟩; have H7 := Lib.hid (H6.out.trans (hB7.mono H6.out.size)); clear hB7))
      go_ret
      exact ⟨rfl, hT.out.bl.trans (H7.out.mono hT.out.bl.size)⟩
end Go.Proofs.Ytolnadnmnadpoaa
