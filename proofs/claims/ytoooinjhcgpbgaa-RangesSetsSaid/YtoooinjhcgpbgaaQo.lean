/-
  RangesGaps: gaps, one behind the other, and what is in it, are together all.
-/
import Derived.Test.YtoooinjhcgpbgaaQw
import Derived.Test.YtoooinjhcgpbgaaQn
import Derived.BigRegion
namespace Go.Proofs.Ytoooinjhcgpbgaa
set_option linter.unusedVariables false
set_option linter.unusedSimpArgs false
open Go.RowKit
structure Gp (w : World) (p : Nat) (most m : Int) (l : RL) (v : Value) (W : World) : Prop where
  bw : Below w.heap.size w W
  set : SetV W w.heap.size p most v l
  gd : Gd l
  bd : Bd m l
theorem Gp.below {w W W' : World} {p : Nat} {most m : Int} {l : RL} {v : Value} (h : Gp w p most m l v W) (hB : Below W.heap.size W W') : Gp w p most m l v W' :=
  ⟨h.bw.trans (hB.mono h.bw.size), h.set.below hB, h.gd, h.bd⟩
theorem Gp.drewN {w W : World} {p : Nat} {most m : Int} {l : RL} {v : Value} (h : Gp w p most m l v W) (n : Nat) : Gp w p most m l v (W.drewN n) :=
  h.below ⟨rfl, rfl, rfl, Nat.le_refl _, fun _ _ => rfl⟩
theorem Gp.post {w W W' : World} {p : Nat} {most m : Int} {l l' : RL} {v v' : Value} (h : Gp w p most m l v W) (hs : SetV W' w.heap.size p most v' l') (hk : Kept (fun b => b = p ∨ v.ownBlock = some b) W W') (hg : Gd l') (hb : Bd m l') : Gp w p most m l' v' W' :=
  ⟨hk.below h.bw h.bw.size (fun j hj => hj.elim (fun e => e ▸ h.set.bp) (fun e => (h.set.own.lt j e).1)), hs, hg, hb⟩
set_option maxHeartbeats 8000000 in
set_option maxRecDepth 100000 in
theorem rgaps_law (A : Option Addr) (n c : Nat) (L : List AskD) (w : World) (hl : Asks w w.heap.size A n c L) :
    Calls Try.prog 6 #[.slice A n c] w fun e w' => e = .returned (.bool true) ∧ Below w.heap.size w w' := by
  have HN := Lib.hid (new_any 100 w (by omega))
  have HL := Lib.hid hl
  have hnc := hl.2.1
  have hcm := hl.2.2.1
  have HLN := Lib.hid hl.1
  clear hl
  have hcm' : c ≤ 9223372036854775807 := by unfold maxLen at hcm; omega
  have mixed : Try.prog.follows .mixedOrders = true := by kernel_rfl
  go_enter Try.func6, Try.ntmps6
  go_wp2_with (go_at_call 11; refine HN.out.mono ?_; rintro e w1 ⟨rfl, hs1, hB1⟩; have HP1 := Lib.hid (show Gp w w.heap.size 100 200 [] (.slice none 0 0) w1 from ⟨hB1, hs1, Gd.nil_, fun r h => by cases h⟩); clear hs1 hB1)
  go_loopg [4] n (fun kx s4 wr => ∃ (i : Nat) (v : Value) (l : RL), s4 = .int .i64 i ∧ i ≤ n ∧ n - i ≤ kx ∧ Hid (Gp w w.heap.size 100 200 l v wr) ∧ l.length ≤ i ∧ i ≤ 30)
  case atStart => exact ⟨0, _, _, rfl, Nat.zero_le _, by omega, HP1, Nat.le_refl _, by omega⟩
  case round =>
    obtain ⟨i, v, l, rfl, hin, hk, HP, hlen, hi30⟩ := hrel
    have HLEN := Lib.hid hlen
    clear hlen
    by_cases hlt : i < n ∧ i < 30
    · obtain ⟨hlt, hl60⟩ := hlt
      obtain ⟨d, hi⟩ : ∃ d, L[i]? = some d := ⟨_, List.getElem?_eq_getElem (by rw [HLN.out]; exact hlt)⟩
      have hak := HL.out.below HP.out.bw
      obtain ⟨b, off, rfl, hblt, hcell⟩ := hak.2.2.2.2 (by omega)
      have ha := hcell i d hi
      have ck := ha.ck
      have cl := ha.cl
      have ch := ha.ch
      have hwf := ha.wf
      unfold AskD.wf at hwf
      clear ha hcell hak hi
      obtain ⟨kk, lo, hi⟩ := d
      simp only at ck cl ch hwf
      have hiz : (i : Int) < (n : Int) := by omega
      have hi60 : (i : Int) < 30 := by omega
      have t1 : lo.tmod 200 = lo % 200 := Int.tmod_eq_emod_of_nonneg (by omega)
      have t2 : hi.tmod 200 = hi % 200 := Int.tmod_eq_emod_of_nonneg (by omega)
      have t3 : hi.tmod 201 = hi % 201 := Int.tmod_eq_emod_of_nonneg (by omega)
      have hl2 : l.length ≤ 30 := by have := HLEN.out; omega
      by_cases hk1 : kk = 1
      · subst hk1
        have HC := Lib.hid (fun q => cut_any' w.heap.size w.heap.size 100 v l (wr.drewN q) (HP.out.drewN q).set (by omega) HP.out.gd (HP.out.drewN q).bw.size (by omega) (lo % 200) (hi % 200) (by omega) (by omega))
        go_wp2_with fail
        go_region_with (go_at_call 12; refine (HC.out 1).mono ?_; rintro e w3 ⟨rfl, v3, hs3, hk3, hv3⟩)
        all_goals have hp := (HP.out.drewN 1).post hs3 hk3 (cutL_gd HP.out.gd _ _ _) (bd_cutL HP.out.bd _ _ _)
        all_goals have HP3 := Lib.hid hp
        all_goals clear hs3 hk3 hv3 hp
        all_goals go_wp2
        all_goals go_roundg (n - (i + 1))
        all_goals first
          | omega
          | exact ⟨i + 1, v3, _, by simp, by omega, by omega, HP3, by have h1 := cut_len HP.out.gd (lo % 200) (hi % 200) 100; have := HLEN.out; omega, by omega⟩
      · have HC := Lib.hid (fun q => add_any' w.heap.size w.heap.size 100 v l (wr.drewN q) (HP.out.drewN q).set (by omega) HP.out.gd (HP.out.drewN q).bw.size (by omega) (lo % 200) (hi % 201) (by omega))
        go_wp2_with fail
        go_region_with (go_at_call 13; refine (HC.out 1).mono ?_; rintro e w3 ⟨rfl, v3, hs3, hk3, hv3⟩)
        all_goals have hp := (HP.out.drewN 1).post hs3 hk3 (addV_gd HP.out.gd _ _ _ (by omega)) (bd_addV HP.out.bd _ _ _ (by omega))
        all_goals have HP3 := Lib.hid hp
        all_goals clear hs3 hk3 hv3 hp
        all_goals go_wp2
        all_goals go_roundg (n - (i + 1))
        all_goals first
          | omega
          | exact ⟨i + 1, v3, _, by simp, by omega, by omega, HP3, by have h1 := addV_len l (lo % 200) (hi % 201) 100; have := HLEN.out; omega, by omega⟩
    · have hl2 : l.length ≤ 30 := by have := HLEN.out; omega
      have HC := Lib.hid (count_any' w.heap.size w.heap.size 100 v l wr HP.out.set (by omega) HP.out.gd)
      have hex : ¬ (i : Int) < (n : Int) ∨ ((i : Int) < (n : Int) ∧ ¬ (i : Int) < 30) := by omega
      clear hlt hin hk
      rcases hex with hex | ⟨hex1, hex2⟩
      · go_wp2_with (go_at_call 18; refine HC.out.mono ?_; rintro e w4 ⟨rfl, hB4⟩; have HP4 := Lib.hid (HP.out.below hB4); clear hB4)
        go_loopg [5, 6, 7] 300 (fun kx s5 s6 s7 wr' => ∃ (j : Nat) (A2 B2 : RL) (at_ : Int), s5 = .int .u64 (at_ + cntL B2) ∧ s6 = .int .u64 at_ ∧ s7 = .int .i64 j ∧ Hid (GapS 200 l A2 B2 at_) ∧ Hid (j + B2.length + flg B2 at_ 200 ≤ l.length + 1) ∧ 300 - j ≤ kx ∧ Hid (Gp w w.heap.size 100 200 l v wr'))
        case atStart => exact ⟨0, [], l, 0, by rw [Int.zero_add], rfl, rfl, Lib.hid ⟨rfl, by omega, by omega, fun r h => (by cases h), fun r h => (HP4.out.gd.1 r h).1⟩, Lib.hid (by have : flg l 0 200 ≤ 1 := (by unfold flg; split <;> split <;> omega); omega), by omega, HP4⟩
        case round =>
          obtain ⟨j, A2, B2, at_, rfl, rfl, rfl, HGS, HJ, hk2, HP5⟩ := hrel
          have hj31 : j ≤ 31 := by have := HJ.out; omega
          have hjz : (j : Int) < 300 := by omega
          have hat0 := HGS.out.h0
          have hat1 := HGS.out.h1
          have hgB := (gd_app.1 (HGS.out.e ▸ HP5.out.gd)).2.1
          have hcb := cnt_le B2 0 hgB (fun r hr => (hgB.1 r hr).1) (by omega)
          have hG := gap_any' w.heap.size w.heap.size 100 v l wr HP5.out.set (by omega) HP5.out.gd at_ 200
          rcases gap_step HP5.out.gd HP5.out.bd HGS.out with ⟨h1, h2⟩ | ⟨a, e, A3, B3, h1, h2, h3, h4, h5, h6, h7, h8, h9⟩
          · rw [gapV_no h1] at hG
            have HG := Lib.hid hG
            clear hG hcb hgB
            rw [h2]
            go_wp2_with (first
              | (go_at_call 19; refine HG.out.mono ?_; rintro e w5 ⟨rfl, hB5⟩; have HB5 := Lib.hid (HP5.out.bw.trans (hB5.mono HP5.out.bw.size)); clear hB5)
              | (go_at_call 8; refine (known_any _).mono ?_; rintro e w6 ⟨rfl, hB6⟩; have hBA : Below w.heap.size w (w5.alloc (.cells #[.int .u64 0, .int .u64 0] 41)) := HB5.out.alloc HB5.out.size _; have HB6 := Lib.hid (hBA.trans (hB6.mono hBA.size)); clear hB6 hBA))
            go_ret
            exact ⟨rfl, HB6.out⟩
          · rw [gapV_yes h5 h1 h2] at hG
            have HG := Lib.hid hG
            have hs6b := h6.h1
            have hw1 : IntKind.u64.wrap (at_ + cntL B2 + e) = at_ + cntL B2 + e := by rw [IntKind.wrap_u64]; omega
            have hw2 : IntKind.u64.wrap (at_ + cntL B2 + e - a) = e + cntL B3 := by rw [IntKind.wrap_u64]; omega
            have HNO := Lib.hid h8
            have HGS3 := Lib.hid h6
            have HJ3 := Lib.hid h9
            have g1 : ¬ a < at_ := by omega
            have g2 : ¬ e ≤ a := by omega
            have g3 : ¬ 200 < e := by omega
            clear hG hcb hgB h1 h2 h6 h7 h8 h9
            have HNN := Lib.hid (show e + cntL B3 = e + cntL B3 from rfl)
            generalize at_ + cntL B2 = nn at *
            generalize hn3 : e + cntL B3 = n3 at *
            have HN3 := Lib.hid hn3
            clear hn3 HNN
            go_wp2_with (go_at_call 19; refine HG.out.mono ?_; rintro _ w5 ⟨rfl, hB5⟩; have HP6 := Lib.hid ((HP5.out.below hB5).below ((Below.refl _ _).alloc (Nat.le_refl _) (.cells #[.int .u64 a, .int .u64 e] 41))); clear hB5)
            obtain ⟨W5, hW5⟩ : ∃ W, w5.alloc (.cells #[.int .u64 a, .int .u64 e] 41) = W := ⟨_, rfl⟩
            have hA5 : At W5 w5.heap.size 41 [.int .u64 a, .int .u64 e] := by rw [← hW5]; exact At.new w5 _ _
            have HP7 : Hid (Gp w w.heap.size 100 200 l v W5) := by rw [← hW5]; exact HP6
            rw [hW5]
            generalize w5.heap.size = g8 at *
            have HA5 := Lib.hid hA5
            clear hW5 hA5 HP6
            go_loopg [10] (e - a).toNat (fun kx s10 wr' => ∃ (k : Int), s10 = .int .u64 k ∧ a ≤ k ∧ k ≤ e ∧ (e - k).toNat ≤ kx ∧ Below W5.heap.size W5 wr')
            case atStart => exact ⟨a, rfl, by omega, by omega, by omega, Below.refl _ _⟩
            case round =>
              obtain ⟨k, rfl, hk0, hk1, hk3, hB6⟩ := hrel
              have hA6 := HA5.out.below hB6 HA5.out.lt
              have c0 := hA6.cell 0
              have c1 := hA6.cell 1
              simp at c0 c1
              have HP8 := Lib.hid (HP7.out.below hB6)
              have HB6 := Lib.hid hB6
              clear hB6 hA6
              by_cases hke : k < e
              · have hH := has_any' w.heap.size w.heap.size 100 v l wr HP8.out.set (by omega) HP8.out.gd k
                rw [HNO.out k hk0 hke] at hH
                have HH := Lib.hid hH
                clear hH
                have hwk : IntKind.u64.wrap (k + 1) = k + 1 := by rw [IntKind.wrap_u64]; omega
                go_wp2_with (go_at_call 17; refine HH.out.mono ?_; rintro _ w7 ⟨rfl, hB7⟩; have HB7 := Lib.hid (HB6.out.trans (hB7.mono HB6.out.size)); clear hB7)
                go_roundg (e - (k + 1)).toNat
                case measure => omega
                case rel => exact ⟨k + 1, rfl, by omega, by omega, by omega, HB7.out⟩
              · have hke2 : ¬ k < e := hke
                go_wp2
                go_roundg (300 - (j + 1))
                case measure => omega
                case rel => exact ⟨j + 1, A3, B3, e, by rw [HN3.out], rfl, by simp, HGS3, Lib.hid (by have h1 := HJ3.out; have h2 := HJ.out; omega), by omega, HP8⟩
      · go_wp2_with (go_at_call 18; refine HC.out.mono ?_; rintro e w4 ⟨rfl, hB4⟩; have HP4 := Lib.hid (HP.out.below hB4); clear hB4)
        go_loopg [5, 6, 7] 300 (fun kx s5 s6 s7 wr' => ∃ (j : Nat) (A2 B2 : RL) (at_ : Int), s5 = .int .u64 (at_ + cntL B2) ∧ s6 = .int .u64 at_ ∧ s7 = .int .i64 j ∧ Hid (GapS 200 l A2 B2 at_) ∧ Hid (j + B2.length + flg B2 at_ 200 ≤ l.length + 1) ∧ 300 - j ≤ kx ∧ Hid (Gp w w.heap.size 100 200 l v wr'))
        case atStart => exact ⟨0, [], l, 0, by rw [Int.zero_add], rfl, rfl, Lib.hid ⟨rfl, by omega, by omega, fun r h => (by cases h), fun r h => (HP4.out.gd.1 r h).1⟩, Lib.hid (by have : flg l 0 200 ≤ 1 := (by unfold flg; split <;> split <;> omega); omega), by omega, HP4⟩
        case round =>
          obtain ⟨j, A2, B2, at_, rfl, rfl, rfl, HGS, HJ, hk2, HP5⟩ := hrel
          have hj31 : j ≤ 31 := by have := HJ.out; omega
          have hjz : (j : Int) < 300 := by omega
          have hat0 := HGS.out.h0
          have hat1 := HGS.out.h1
          have hgB := (gd_app.1 (HGS.out.e ▸ HP5.out.gd)).2.1
          have hcb := cnt_le B2 0 hgB (fun r hr => (hgB.1 r hr).1) (by omega)
          have hG := gap_any' w.heap.size w.heap.size 100 v l wr HP5.out.set (by omega) HP5.out.gd at_ 200
          rcases gap_step HP5.out.gd HP5.out.bd HGS.out with ⟨h1, h2⟩ | ⟨a, e, A3, B3, h1, h2, h3, h4, h5, h6, h7, h8, h9⟩
          · rw [gapV_no h1] at hG
            have HG := Lib.hid hG
            clear hG hcb hgB
            rw [h2]
            go_wp2_with (first
              | (go_at_call 19; refine HG.out.mono ?_; rintro e w5 ⟨rfl, hB5⟩; have HB5 := Lib.hid (HP5.out.bw.trans (hB5.mono HP5.out.bw.size)); clear hB5)
              | (go_at_call 8; refine (known_any _).mono ?_; rintro e w6 ⟨rfl, hB6⟩; have hBA : Below w.heap.size w (w5.alloc (.cells #[.int .u64 0, .int .u64 0] 41)) := HB5.out.alloc HB5.out.size _; have HB6 := Lib.hid (hBA.trans (hB6.mono hBA.size)); clear hB6 hBA))
            go_ret
            exact ⟨rfl, HB6.out⟩
          · rw [gapV_yes h5 h1 h2] at hG
            have HG := Lib.hid hG
            have hs6b := h6.h1
            have hw1 : IntKind.u64.wrap (at_ + cntL B2 + e) = at_ + cntL B2 + e := by rw [IntKind.wrap_u64]; omega
            have hw2 : IntKind.u64.wrap (at_ + cntL B2 + e - a) = e + cntL B3 := by rw [IntKind.wrap_u64]; omega
            have HNO := Lib.hid h8
            have HGS3 := Lib.hid h6
            have HJ3 := Lib.hid h9
            have g1 : ¬ a < at_ := by omega
            have g2 : ¬ e ≤ a := by omega
            have g3 : ¬ 200 < e := by omega
            clear hG hcb hgB h1 h2 h6 h7 h8 h9
            have HNN := Lib.hid (show e + cntL B3 = e + cntL B3 from rfl)
            generalize at_ + cntL B2 = nn at *
            generalize hn3 : e + cntL B3 = n3 at *
            have HN3 := Lib.hid hn3
            clear hn3 HNN
            go_wp2_with (go_at_call 19; refine HG.out.mono ?_; rintro _ w5 ⟨rfl, hB5⟩; have HP6 := Lib.hid ((HP5.out.below hB5).below ((Below.refl _ _).alloc (Nat.le_refl _) (.cells #[.int .u64 a, .int .u64 e] 41))); clear hB5)
            obtain ⟨W5, hW5⟩ : ∃ W, w5.alloc (.cells #[.int .u64 a, .int .u64 e] 41) = W := ⟨_, rfl⟩
            have hA5 : At W5 w5.heap.size 41 [.int .u64 a, .int .u64 e] := by rw [← hW5]; exact At.new w5 _ _
            have HP7 : Hid (Gp w w.heap.size 100 200 l v W5) := by rw [← hW5]; exact HP6
            rw [hW5]
            generalize w5.heap.size = g8 at *
            have HA5 := Lib.hid hA5
            clear hW5 hA5 HP6
            go_loopg [10] (e - a).toNat (fun kx s10 wr' => ∃ (k : Int), s10 = .int .u64 k ∧ a ≤ k ∧ k ≤ e ∧ (e - k).toNat ≤ kx ∧ Below W5.heap.size W5 wr')
            case atStart => exact ⟨a, rfl, by omega, by omega, by omega, Below.refl _ _⟩
            case round =>
              obtain ⟨k, rfl, hk0, hk1, hk3, hB6⟩ := hrel
              have hA6 := HA5.out.below hB6 HA5.out.lt
              have c0 := hA6.cell 0
              have c1 := hA6.cell 1
              simp at c0 c1
              have HP8 := Lib.hid (HP7.out.below hB6)
              have HB6 := Lib.hid hB6
              clear hB6 hA6
              by_cases hke : k < e
              · have hH := has_any' w.heap.size w.heap.size 100 v l wr HP8.out.set (by omega) HP8.out.gd k
                rw [HNO.out k hk0 hke] at hH
                have HH := Lib.hid hH
                clear hH
                have hwk : IntKind.u64.wrap (k + 1) = k + 1 := by rw [IntKind.wrap_u64]; omega
                go_wp2_with (go_at_call 17; refine HH.out.mono ?_; rintro _ w7 ⟨rfl, hB7⟩; have HB7 := Lib.hid (HB6.out.trans (hB7.mono HB6.out.size)); clear hB7)
                go_roundg (e - (k + 1)).toNat
                case measure => omega
                case rel => exact ⟨k + 1, rfl, by omega, by omega, by omega, HB7.out⟩
              · have hke2 : ¬ k < e := hke
                go_wp2
                go_roundg (300 - (j + 1))
                case measure => omega
                case rel => exact ⟨j + 1, A3, B3, e, by rw [HN3.out], rfl, by simp, HGS3, Lib.hid (by have h1 := HJ3.out; have h2 := HJ.out; omega), by omega, HP8⟩
end Go.Proofs.Ytoooinjhcgpbgaa
