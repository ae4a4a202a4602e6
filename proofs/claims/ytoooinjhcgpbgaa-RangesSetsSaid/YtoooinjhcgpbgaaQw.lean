/-
  Chapter 10's law: play.
-/
import Derived.Test.YtoooinjhcgpbgaaQu
import Derived.Test.YtoooinjhcgpbgaaQt
import Derived.Test.YtoooinjhcgpbgaaQv
namespace Go.Proofs.Ytoooinjhcgpbgaa
set_option linter.unusedVariables false
set_option linter.unusedSimpArgs false
open Go.RowKit
theorem lst_max (l : RL) (most : Int) : lst (max most 1) l = lst most l := by unfold lst; rw [Int.max_eq_left (Int.le_max_right most 1)]
theorem addL_max (l : RL) (lo hi most : Int) : addL l lo hi (max most 1) = addL l lo hi most := by unfold addL; rw [lst_max]
theorem cutL_max (l : RL) (lo hi most : Int) : cutL l lo hi (max most 1) = cutL l lo hi most := by unfold cutL; split; rfl; rw [lst_max]
theorem cutP_one {lo hi : Int} (hlt : lo < hi) (r : Int × Int) (h : lo ≤ r.1 ∨ r.2 ≤ hi) : (cutP lo hi r).length ≤ 1 := by
  unfold cutP
  rcases h with h | h
  · rw [if_neg (by omega), List.nil_append]
    split <;> simp
  · rw [if_neg (show ¬ max r.1 hi < r.2 by omega), List.append_nil]
    split <;> simp
theorem cutP_all {lo hi : Int} (hlt : lo < hi) : ∀ l : RL, (∀ r ∈ l, lo ≤ r.1) → (l.flatMap (cutP lo hi)).length ≤ l.length
  | [], _ => Nat.le_refl _
  | r :: t, h => by
    have h1 := cutP_one hlt r (.inl (h r (List.mem_cons_self ..)))
    have h2 := cutP_all hlt t fun s hs => h s (List.mem_cons_of_mem _ hs)
    rw [List.flatMap_cons, List.length_append, List.length_cons]
    omega
theorem cutP_gdlen {lo hi : Int} (hlt : lo < hi) : ∀ l : RL, Gd l → (l.flatMap (cutP lo hi)).length ≤ l.length + 1
  | [], _ => Nat.zero_le _
  | r :: t, h => by
    have h' := gd_cons.1 h
    rw [List.flatMap_cons, List.length_append, List.length_cons]
    by_cases hr : lo < r.2
    · have h1 := cutP_len lo hi r
      have h2 := cutP_all hlt t fun s hs => by have := h'.2.2 s hs; omega
      omega
    · have h1 := cutP_one hlt r (.inr (by omega))
      have h2 := cutP_gdlen hlt t h'.2.1
      omega
theorem cut_len {l : RL} (h : Gd l) (lo hi most : Int) : (cutL l lo hi most).length ≤ l.length + 1 := by
  unfold cutL
  split
  · omega
  · exact Nat.le_trans (lst_le _ _) (cutP_gdlen (by omega) l h)
/-- What the loop of play keeps: the set, and the document's ranges, alike, each by itself. -/
structure Pl (w : World) (p : Nat) (most : Int) (l : RL) (v mv : Value) (W : World) : Prop where
  bw : Below w.heap.size w W
  set : SetV W w.heap.size p most v l
  own : OwnL W w.heap.size mv l
  gd : Gd l
  ne : ∀ k, mv.ownBlock = some k → k ≠ p ∧ v.ownBlock ≠ some k
theorem Pl.below {w W W' : World} {p : Nat} {most : Int} {l : RL} {v mv : Value} (h : Pl w p most l v mv W) (hB : Below W.heap.size W W') : Pl w p most l v mv W' :=
  ⟨h.bw.trans (hB.mono h.bw.size), h.set.below hB, h.own.below hB, h.gd, h.ne⟩
/-- Behind a call that changed the set, and one that made ranges. -/
theorem Pl.step {w W W1 W2 : World} {p : Nat} {most : Int} {l l' : RL} {v mv v' mv' : Value} (h : Pl w p most l v mv W) (hs : SetV W1 w.heap.size p most v' l') (hk : Kept (fun b => b = p ∨ v.ownBlock = some b) W W1) (hv : ∀ k, v'.ownBlock = some k → v.ownBlock = some k ∨ W.heap.size ≤ k)
    (hB : Below W1.heap.size W1 W2) (hm : OwnL W2 w.heap.size mv' l') (hmv : ∀ k, mv'.ownBlock = some k → mv.ownBlock = some k ∨ W1.heap.size ≤ k) (hg : Gd l') : Pl w p most l' v' mv' W2 := by
  have hb1 : Below w.heap.size w W1 := hk.below h.bw h.bw.size (fun j hj => hj.elim (fun e => e ▸ h.set.bp) (fun e => (h.set.own.lt j e).1))
  refine ⟨hb1.trans (hB.mono hb1.size), hs.below hB, hm, hg, fun k hk2 => ?_⟩
  have hlt1 := hs.at_.lt
  rcases hmv k hk2 with h1 | h1
  · have h2 := h.ne k h1
    have h3 := (h.own.lt k h1).2
    exact ⟨h2.1, fun e => (hv k e).elim (fun e => h2.2 e) fun e => by omega⟩
  · exact ⟨by omega, fun e => by have := (hs.own.lt k e).2; omega⟩
theorem Pl.mid {w W W1 : World} {p : Nat} {most : Int} {l : RL} {v mv : Value} (h : Pl w p most l v mv W) (hk : Kept (fun b => b = p ∨ v.ownBlock = some b) W W1) : OwnL W1 w.heap.size mv l :=
  h.own.kept hk fun j hj hs => hs.elim (h.ne j hj).1 (h.ne j hj).2
theorem Pl.step2 {w W W1 W2 : World} {p : Nat} {most : Int} {l l' : RL} {v mv v' mv' : Value} (h : Pl w p most l v mv W) (hB : Below W.heap.size W W1) (hm : OwnL W1 W.heap.size mv' l') (hs : SetV W2 w.heap.size p most v' l') (hk : Kept (fun b => b = p ∨ v.ownBlock = some b) W1 W2)
    (hv : ∀ k, v'.ownBlock = some k → v.ownBlock = some k ∨ W1.heap.size ≤ k) (hg : Gd l') : Pl w p most l' v' mv' W2 := by
  have hb0 := h.bw.trans (hB.mono h.bw.size)
  have hp := h.set.at_.lt
  have hvl := h.set.own.lt
  have hne : ∀ k, mv'.ownBlock = some k → k ≠ p ∧ v.ownBlock ≠ some k := fun k hk2 => by
    have h1 := hm.lt k hk2
    exact ⟨by omega, fun e => by have := (hvl k e).2; omega⟩
  refine ⟨hk.below hb0 hb0.size (fun j hj => hj.elim (fun e => e ▸ h.set.bp) (fun e => (hvl j e).1)), hs, ((hm.base_ h.bw.size).kept hk fun j hj hx => hx.elim (hne j hj).1 (hne j hj).2), hg, fun k hk2 => ⟨(hne k hk2).1, fun e => ?_⟩⟩
  have h1 := hm.lt k hk2
  rcases hv k e with h2 | h2
  · exact (hne k hk2).2 h2
  · omega
theorem min_max_pos (most : Int) (h : -9223372036854775808 ≤ most ∧ most < 9223372036854775808) : 1 ≤ max most 1 ∧ max most 1 < 9223372036854775808 := by omega
set_option maxHeartbeats 8000000 in
set_option maxRecDepth 100000 in
theorem play_any (most : Int) (hm : -9223372036854775808 ≤ most ∧ most < 9223372036854775808) (A : Option Addr) (n c : Nat) (L : List AskD) (at_ : Int) (w : World) (hl : Asks w w.heap.size A n c L) :
    Calls Try.prog 7 #[.int .i64 most, .slice A n c, .int .u64 at_] w fun e w' => ∃ p mv, e = .returned (.tuple #[p, mv, .bool true]) ∧ Below w.heap.size w w' := by
  have HN := Lib.hid (new_any most w hm)
  have HL := Lib.hid hl
  have hm1 := min_max_pos most hm
  obtain ⟨m1, hmx⟩ : ∃ m1, max most 1 = m1 := ⟨_, rfl⟩
  have HMX := Lib.hid hmx
  rw [hmx] at HN hm1
  have hnc := hl.2.1
  have hcm := hl.2.2.1
  have hLn := hl.1
  have HLN := Lib.hid hLn
  clear hl hmx hLn
  have hcm' : c ≤ 9223372036854775807 := by unfold maxLen at hcm; omega
  go_enter Try.func7, Try.ntmps7
  go_wp2_with (go_at_call 11; refine HN.out.mono ?_; rintro e w1 ⟨rfl, hs1, hB1⟩; have HP1 := Lib.hid (show Pl w w.heap.size m1 [] (.slice none 0 0) (.slice none 0 0) w1 from ⟨hB1, hs1, OwnL.nil_ _ _, Gd.nil_, fun k hk => absurd hk (by simp [Value.ownBlock])⟩); clear hs1 hB1)
  go_loopg [10, 11] n (fun kx s10 s11 wr => ∃ (i : Nat) (mv v : Value) (l : RL), mv = s10 ∧ s11 = .int .i64 i ∧ i ≤ n ∧ n - i ≤ kx ∧ Hid (Pl w w.heap.size m1 l v mv wr) ∧ l.length ≤ i)
  case atStart => exact ⟨0, _, _, _, rfl, rfl, Nat.zero_le _, by omega, HP1, Nat.le_refl _⟩
  case round =>
    obtain ⟨i, mv, v, l, rfl, rfl, hin, hk, hpl, hlen⟩ := hrel
    have HPL0 := hpl
    clear hpl
    by_cases hlt : i < n ∧ i < 60
    · obtain ⟨hlt, hl60⟩ := hlt
      obtain ⟨d, hi⟩ : ∃ d, L[i]? = some d := ⟨_, List.getElem?_eq_getElem (by rw [HLN.out]; exact hlt)⟩
      have hak := HL.out.below HPL0.out.bw
      obtain ⟨b, off, rfl, hblt, hcell⟩ := hak.2.2.2.2 (by omega)
      have ha := hcell i d hi
      have ck := ha.ck
      have cl := ha.cl
      have ch := ha.ch
      have hwf := ha.wf
      unfold AskD.wf at hwf
      clear ha hcell hak hi
      obtain ⟨kk, lo, hi⟩ := d
      simp only at ck cl ch hwf
      have hiz : (i : Int) < (n : Int) := by omega
      have hi60 : (i : Int) < 60 := by omega
      have HLEN := Lib.hid hlen
      clear hlen
      go_wp2_with fail
      go_quiet (fail)
      generalize hW : World.drewN wr _ = W
      have hpl : Pl w w.heap.size m1 l v mv W := by subst hW; exact HPL0.out.below ⟨rfl, rfl, rfl, Nat.le_refl _, fun _ _ => rfl⟩
      have ck2 : W.cell? ⟨b, off + i * 3, none⟩ = some (.int .i64 kk) := by subst hW; exact ck
      clear hW ck cl ch HPL0
      have HPL := Lib.hid hpl
      clear hpl
      have hlen2 : l.length ≤ 60 := by have := HLEN.out; omega
      by_cases hk1 : kk = 1
      · subst hk1
        have hbs := HPL.out.bw.size
        have HC := Lib.hid (cut_any' w.heap.size w.heap.size m1 v l W HPL.out.set (by omega) HPL.out.gd hbs hm1 lo hi hwf.2.2.1 hwf.2.2.2.2.2)
        have hll := cut_len HPL.out.gd lo hi m1
        have HLL := Lib.hid hll
        clear hbs hll
        have hgc := cutL_gd HPL.out.gd lo hi m1
        have HGC := Lib.hid hgc
        clear hgc
        have hme : cutL l lo hi m1 = cutL l lo hi most := by rw [← HMX.out]; exact cutL_max l lo hi most
        have HME := Lib.hid hme
        clear hme
        generalize cutL l lo hi m1 = l' at *
        go_wp2_with (first
          | (go_at_call 12; refine HC.out.mono ?_; rintro e w3 ⟨rfl, v3, hs3, hk3, hv3⟩; have hb3 : w.heap.size ≤ w3.heap.size := (Nat.le_trans HPL.out.bw.size hk3.size); have hr3 := rcut_any w.heap.size mv l w3 (HPL.out.mid hk3) (by omega) hb3 HPL.out.gd lo hi most hwf.2.2.1 hwf.2.2.2.1 hwf.2.2.2.2.1 hwf.2.2.2.2.2 hm; rw [← HME.out] at hr3; have HR3 := Lib.hid hr3; have HS3 := Lib.hid hs3; have HK3 := Lib.hid hk3; have HV3 := Lib.hid hv3; clear hs3 hk3 hv3 hb3 hr3)
          | (go_at_call 20; refine HR3.out.mono ?_; rintro e w4 ⟨mv4, rfl, hO4, hB4, hm4⟩; have hp4 := HPL.out.step HS3.out HK3.out HV3.out hB4 hO4 hm4 HGC.out; have HP4 := Lib.hid hp4; have HSM := Lib.hid (fun W' (hB : Below w4.heap.size w4 W') x y => same_any w.heap.size w.heap.size m1 v3 l' W' (hp4.set.below hB) (by have := HLL.out; omega) hp4.gd w.heap.size mv4 (hp4.own.below hB) x y); clear hO4 hB4 hm4 hp4)
          | (go_at_call 23; (with_reducible refine (HSM.out _ (Below.refl _ _) lo hi).mono ?_); rintro e w5 ⟨rfl, hB5⟩; have HB5 := Lib.hid hB5; clear hB5)
          | (go_at_call 23; (with_reducible refine (HSM.out _ HB5.out _ _).mono ?_); rintro e w6 ⟨rfl, hB6⟩; have HB6 := Lib.hid (HB5.out.trans (hB6.mono HB5.out.size)); clear hB6))
        go_roundg (n - (i + 1))
        case measure => omega
        case rel => exact ⟨i + 1, mv4, v3, l', rfl, by simp, by omega, by omega, Lib.hid (HP4.out.below HB6.out), by have := HLEN.out; have := HLL.out; omega⟩
      · by_cases hok : lo < hi ∧ hi ≤ 4611686018427387904
        · obtain ⟨ho1, ho2⟩ := hok
          have hbs := HPL.out.bw.size
          have hra := radd_any w.heap.size mv l W HPL.out.own (by omega) lo hi most hwf.2.2.1 hwf.2.2.2.1 hwf.2.2.2.2.1 hwf.2.2.2.2.2 hm
          have hme : addL l lo hi m1 = addL l lo hi most := by rw [← HMX.out]; exact addL_max l lo hi most
          rw [← hme] at hra
          have HRA := Lib.hid hra
          clear hra hme
          have hll := addL_len l lo hi m1
          have HLL := Lib.hid hll
          have hgc := addL_gd HPL.out.gd m1 hwf.2.2.1 ho1 ho2
          have HGC := Lib.hid hgc
          have hsh := some_has HPL.out.gd m1 hwf.2.2.1 ho1
          have hB : addB l lo hi m1 = hasL (addL l lo hi m1) lo := by unfold addB; rw [if_pos ⟨ho1, ho2⟩]
          have hV : addV l lo hi m1 = addL l lo hi m1 := by unfold addV; rw [if_pos ⟨ho1, ho2⟩]
          rw [hsh] at hB
          have HBV := Lib.hid (And.intro hB hV)
          clear hll hgc hsh hB hV
          generalize addL l lo hi m1 = l' at *
          generalize hbb : someL l' lo hi = bb at *
          have HBB := Lib.hid hbb
          clear hbb
          go_wp2_with (first
            | (go_at_call 21; refine HRA.out.mono ?_; rintro e w3 ⟨mv3, rfl, hO3, hB3⟩; have HA3 := Lib.hid (add_of (HPL.out.set.below hB3) HPL.out.gd (by omega) (Nat.le_trans hbs hB3.size) hm1 hwf.2.2.1 HBV.out.1 HBV.out.2); have HO3 := Lib.hid hO3; have HB3 := Lib.hid hB3; clear hO3 hB3)
            | (go_at_call 13; refine HA3.out.mono ?_; rintro e w4 ⟨rfl, v4, hs4, hk4, hv4⟩; have hp4 := HPL.out.step2 HB3.out HO3.out hs4 hk4 hv4 HGC.out; have hso := rsome_any w.heap.size mv3 l' w4 hp4.own (by have := HLL.out; omega) lo hi; rw [HBB.out] at hso; have HSO := Lib.hid hso; have HP4 := Lib.hid hp4; clear hs4 hk4 hv4 hp4 hso)
            | (go_at_call 22; refine HSO.out.mono ?_; rintro e w4b ⟨rfl, hB4b⟩; have hp4b := HP4.out.below hB4b; have HP4b := Lib.hid hp4b; have HSM := Lib.hid (fun W' (hB : Below w4b.heap.size w4b W') x y => same_any w.heap.size w.heap.size m1 v4 l' W' (hp4b.set.below hB) (by have := HLL.out; omega) hp4b.gd w.heap.size mv3 (hp4b.own.below hB) x y); clear hB4b hp4b)
            | (go_at_call 23; (with_reducible refine (HSM.out _ (Below.refl _ _) lo hi).mono ?_); rintro e w5 ⟨rfl, hB5⟩; have HB5 := Lib.hid hB5; clear hB5)
            | (go_at_call 23; (with_reducible refine (HSM.out _ HB5.out _ _).mono ?_); rintro e w6 ⟨rfl, hB6⟩; have HB6 := Lib.hid (HB5.out.trans (hB6.mono HB5.out.size)); clear hB6))
          go_roundg (n - (i + 1))
          case measure => omega
          case rel => exact ⟨i + 1, mv3, v4, l', rfl, by simp, by omega, by omega, Lib.hid (HP4b.out.below HB6.out), by have := HLEN.out; have := HLL.out; omega⟩
        · have hB : addB l lo hi m1 = false := by unfold addB; rw [if_neg hok]
          have hV : addV l lo hi m1 = l := by unfold addV; rw [if_neg hok]
          have HA3 := Lib.hid (add_of HPL.out.set HPL.out.gd (by omega) HPL.out.bw.size hm1 hwf.2.2.1 hB hV)
          clear hB hV
          by_cases ho1 : lo < hi
          · have ho2 : ¬ hi ≤ 4611686018427387904 := fun h => hok ⟨ho1, h⟩
            clear hok
            go_wp2_with (first
              | (go_at_call 13; refine HA3.out.mono ?_; rintro e w4 ⟨rfl, v4, hs4, hk4, hv4⟩; have hp4 := HPL.out.step hs4 hk4 hv4 (Below.refl _ _) (HPL.out.mid hk4) (fun k h => .inl h) HPL.out.gd; have HP4 := Lib.hid hp4; have HSM := Lib.hid (fun W' (hB : Below w4.heap.size w4 W') x y => same_any w.heap.size w.heap.size m1 v4 l W' (hp4.set.below hB) (by omega) hp4.gd w.heap.size mv (hp4.own.below hB) x y); clear hs4 hk4 hv4 hp4)
              | (go_at_call 23; (with_reducible refine (HSM.out _ (Below.refl _ _) lo hi).mono ?_); rintro e w5 ⟨rfl, hB5⟩; have HB5 := Lib.hid hB5; clear hB5)
              | (go_at_call 23; (with_reducible refine (HSM.out _ HB5.out _ _).mono ?_); rintro e w6 ⟨rfl, hB6⟩; have HB6 := Lib.hid (HB5.out.trans (hB6.mono HB5.out.size)); clear hB6))
            go_roundg (n - (i + 1))
            case measure => omega
            case rel => exact ⟨i + 1, mv, v4, l, rfl, by simp, by omega, by omega, Lib.hid (HP4.out.below HB6.out), by have := HLEN.out; omega⟩
          · clear hok
            go_wp2_with (first
              | (go_at_call 13; refine HA3.out.mono ?_; rintro e w4 ⟨rfl, v4, hs4, hk4, hv4⟩; have hp4 := HPL.out.step hs4 hk4 hv4 (Below.refl _ _) (HPL.out.mid hk4) (fun k h => .inl h) HPL.out.gd; have HP4 := Lib.hid hp4; have HSM := Lib.hid (fun W' (hB : Below w4.heap.size w4 W') x y => same_any w.heap.size w.heap.size m1 v4 l W' (hp4.set.below hB) (by omega) hp4.gd w.heap.size mv (hp4.own.below hB) x y); clear hs4 hk4 hv4 hp4)
              | (go_at_call 23; (with_reducible refine (HSM.out _ (Below.refl _ _) lo hi).mono ?_); rintro e w5 ⟨rfl, hB5⟩; have HB5 := Lib.hid hB5; clear hB5)
              | (go_at_call 23; (with_reducible refine (HSM.out _ HB5.out _ _).mono ?_); rintro e w6 ⟨rfl, hB6⟩; have HB6 := Lib.hid (HB5.out.trans (hB6.mono HB5.out.size)); clear hB6))
            go_roundg (n - (i + 1))
            case measure => omega
            case rel => exact ⟨i + 1, mv, v4, l, rfl, by simp, by omega, by omega, Lib.hid (HP4.out.below HB6.out), by have := HLEN.out; omega⟩
    · have hbw := HPL0.out.bw
      have HBW := Lib.hid hbw
      clear hbw HPL0 hlen
      by_cases hl1 : i < n
      · have hl2 : ¬ (i : Int) < 60 := by omega
        have hl3 : (i : Int) < (n : Int) := by omega
        clear hlt
        go_wp2
        go_ret3
        exact ⟨⟨_, _, rfl⟩, HBW.out⟩
      · have hl3 : ¬ (i : Int) < (n : Int) := by omega
        clear hlt
        go_wp2
        go_ret3
        exact ⟨⟨_, _, rfl⟩, HBW.out⟩
end Go.Proofs.Ytoooinjhcgpbgaa
