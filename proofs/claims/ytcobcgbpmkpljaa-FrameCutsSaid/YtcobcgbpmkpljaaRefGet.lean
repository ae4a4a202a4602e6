/-
  What the document's own Get answers, for every row of bytes: what GetVar of package bits answers.
-/
import Derived.Test.YtcobcgbpmkpljaaGet
namespace Go.Proofs.Ytcobcgbpmkpljaa
set_option linter.unusedVariables false
open Go.RowKit
theorem rget_any (A : Option Addr) (n c : Nat) (bs : List Int) (w : World) (B : Nat) (hr : Rd w B A n bs) (hn : n ≤ c) (hc : c ≤ maxLen) :
    Calls Try.prog 77 #[.slice A n c] w fun e w' => e = .returned (.tuple #[.int .u64 (getS bs).1, .int .i64 (getS bs).2]) ∧ w = w' := by
  unfold maxLen at hc
  rcases Nat.eq_zero_or_pos n with h0 | h0
  · subst h0
    obtain rfl := hr.zero
    go_enter Try.func77, Try.ntmps77
    go_wp2
    go_ret2
    exact ⟨rfl, rfl⟩
  · obtain ⟨b, off, rfl, hb, hcell⟩ := hr.2.2 h0
    have hby := hr.2.1
    have hlen := hr.1
    have hb0 := hr.2.1.getD 0
    have c0 := hcell 0 h0
    have hne0 : bs ≠ [] := by intro h; rw [h] at hlen; simp at hlen; omega
    have hw := szS_wrap _ hb0.1 hb0.2
    have hsb := szS_bd (bs.getD 0 0)
    have gs := get_short bs hne0
    have gf := get_full bs hne0
    obtain ⟨x0, hx0⟩ : ∃ x0, bs.getD 0 0 = x0 := ⟨_, rfl⟩
    rw [hx0] at hb0 c0 hw hsb gs gf
    clear hx0
    obtain ⟨s, hs⟩ : ∃ s, szS x0 = s := ⟨_, rfl⟩
    rw [hs] at hw hsb gs gf
    clear hs
    rw [Nat.add_zero] at c0
    obtain ⟨hb1, hb2⟩ := hb0
    obtain ⟨hs1, hs2⟩ := hsb
    have hand : bits BinOp.and IntKind.u8 x0 63 = x0 % 64 := u8_and63 _ hb1 hb2
    have hne : ((n : Int) == 0) = false := by simp; omega
    have hp : (0 : Int) < (n : Int) := by omega
    have L := Lib.hid hlen; clear hlen
    rcases Nat.lt_or_ge n s with hlt | hge
    · have G := Lib.hid (gs (by rw [L.out]; omega)); clear gs gf hcell hr
      go_enter Try.func77, Try.ntmps77
      go_wp2
      go_ret2
      exact ⟨by rw [G.out]; rfl, rfl⟩
    · have G := Lib.hid (gf (by rw [L.out]; omega)); clear gs gf
      have HC := Lib.hid hcell; clear hcell hr
      obtain ⟨T, hT⟩ : ∃ T, (bs.take s).drop 1 = T := ⟨_, rfl⟩
      have hTl : T.length = s - 1 := by rw [← hT]; simp; rw [L.out]; omega
      have hTb : Byt T := by rw [← hT]; exact (hby.take s).drop 1
      have hTs : ∀ k, k + 1 < s → T.take (k + 1) = T.take k ++ [bs.getD (1 + k) 0] := fun k hk => by
        rw [← hT]; exact take_drop_snoc bs s k hk (by rw [L.out]; omega)
      rw [hT] at G
      clear hT
      have TL := Lib.hid hTl; clear hTl
      have TS := Lib.hid hTs; clear hTs
      go_enter Try.func77, Try.ntmps77
      go_wp2
      go_loop [5, 6] (fun m i => ∃ k : Nat, k ≤ s - 1 ∧ i = .int .i64 ((1 + k : Nat) : Int) ∧ m = .int .u64 (foldS (x0 % 64) (T.take k))) (fun _ i => s - (intOf i).toNat)
      case atStart => exact ⟨0, Nat.zero_le _, rfl, by simp [foldS]⟩
      case round =>
        obtain ⟨k, hk, rfl, rfl⟩ := hrel
        by_cases hlt : k < s - 1
        · have c1 := HC.out (1 + k) (by omega)
          have hy := hby.getD (1 + k)
          have hts := TS.out k (by omega)
          obtain ⟨y, hy0⟩ : ∃ y, bs.getD (1 + k) 0 = y := ⟨_, rfl⟩
          rw [hy0] at c1 hy hts
          clear hy0
          have hF := foldS_small (T.take k) (x0 % 64) (hTb.take k) (by omega) (by omega) (by have := List.length_take_le k T; omega)
          have hsn := foldS_snoc (x0 % 64) (T.take k) y
          rw [← hts] at hsn
          obtain ⟨F, hF0⟩ : ∃ F, foldS (x0 % 64) (T.take k) = F := ⟨_, rfl⟩
          rw [hF0] at hF hsn
          rw [hF0]
          clear hF0
          obtain ⟨hF1, hF2⟩ := hF
          obtain ⟨hy1, hy2⟩ := hy
          have hor := or256 F y hF1 (by omega) hy1 hy2
          have N := Lib.hid hsn; clear hsn hts
          obtain ⟨j, hj⟩ : ∃ j, 1 + k = j := ⟨_, rfl⟩
          obtain rfl : k = j - 1 := by omega
          rw [hj] at c1
          rw [hj]
          have hj1 : 1 ≤ j := by omega
          clear hj
          go_wp2
          go_round
          case rel => exact ⟨j - 1 + 1, by omega, by rw [show 1 + (j - 1 + 1) = j + 1 by omega]; go_num, by rw [N.out]⟩
          case measure => simp [intOf]; omega
        · have hkk : T.take k = T := List.take_of_length_le (by rw [TL.out]; omega)
          rw [hkk]
          clear hkk
          obtain rfl : k = s - 1 := by omega
          rw [show 1 + (s - 1) = s by omega]
          go_wp2
          go_ret2
          exact ⟨by rw [G.out]; rfl, rfl⟩
end Go.Proofs.Ytcobcgbpmkpljaa
