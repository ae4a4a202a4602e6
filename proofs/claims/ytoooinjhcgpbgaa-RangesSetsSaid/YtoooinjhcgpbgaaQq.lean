/-
  RangesSets: what is in it is just what was added and not cut since; a copy is by itself.
-/
import Derived.Test.YtoooinjhcgpbgaaQo
import Derived.Test.YtoooinjhcgpbgaaQp
namespace Go.Proofs.Ytoooinjhcgpbgaa
set_option linter.unusedVariables false
set_option linter.unusedSimpArgs false
open Go.RowKit
structure St (w : World) (p b4 : Nat) (l : RL) (v : Value) (f : Nat → Bool) (W : World) : Prop where
  gp : Gp w p 1000 64 l v W
  tab : At W b4 35 (tabL f)
  ne1 : b4 ≠ p
  ne2 : v.ownBlock ≠ some b4
  lb : w.heap.size ≤ b4
theorem St.below {w W W' : World} {p b4 : Nat} {l : RL} {v : Value} {f : Nat → Bool} (h : St w p b4 l v f W) (hB : Below W.heap.size W W') : St w p b4 l v f W' :=
  ⟨h.gp.below hB, h.tab.below hB h.tab.lt, h.ne1, h.ne2, h.lb⟩
theorem St.drewN {w W : World} {p b4 : Nat} {l : RL} {v : Value} {f : Nat → Bool} (h : St w p b4 l v f W) (n : Nat) : St w p b4 l v f (W.drewN n) := h.below ⟨rfl, rfl, rfl, Nat.le_refl _, fun _ _ => rfl⟩
theorem St.post {w W W' : World} {p b4 : Nat} {l l' : RL} {v v' : Value} {f : Nat → Bool} (h : St w p b4 l v f W) (hs : SetV W' w.heap.size p 1000 v' l') (hk : Kept (fun b => b = p ∨ v.ownBlock = some b) W W') (hv : ∀ k, v'.ownBlock = some k → v.ownBlock = some k ∨ W.heap.size ≤ k) (hg : Gd l') (hb : Bd 64 l') : St w p b4 l' v' f W' :=
  ⟨h.gp.post hs hk hg hb, h.tab.kept hk (fun e => e.elim h.ne1 h.ne2), h.ne1, fun e => (hv _ e).elim h.ne2 fun h2 => by have := h.tab.lt; omega, h.lb⟩
theorem St.put {w W : World} {p b4 : Nat} {l : RL} {v : Value} {f : Nat → Bool} (h : St w p b4 l v f W) {k : Nat} (hk : k < 64) (b : Bool) : St w p b4 l v (fun t => if t = k then b else f t) (W.setCell ⟨b4, k, none⟩ (.bool b)) := by
  have hkp : Kept (· = b4) W (W.setCell ⟨b4, k, none⟩ (.bool b)) := (Kept.refl _ W).setAt k _
  refine ⟨⟨h.gp.bw.setCell h.lb _, h.gp.set.kept hkp (fun e => h.ne1 e.symm) (fun j hj e => h.ne2 (e ▸ hj)), h.gp.gd, h.gp.bd⟩, ?_, h.ne1, h.ne2, h.lb⟩
  rw [← tab_set f hk]
  exact h.tab.set k _
set_option maxHeartbeats 8000000 in
set_option maxRecDepth 100000 in
theorem rsets_law (A : Option Addr) (n c : Nat) (L : List AskD) (w : World) (hl : Asks w w.heap.size A n c L) :
    Calls Try.prog 5 #[.slice A n c] w fun e w' => e = .returned (.bool true) ∧ Below w.heap.size w w' := by
  have HN := Lib.hid (new_any 1000 w (by omega))
  have HL := Lib.hid hl
  have hnc := hl.2.1
  have hcm := hl.2.2.1
  have HLN := Lib.hid hl.1
  clear hl
  have hcm' : c ≤ 9223372036854775807 := by unfold maxLen at hcm; omega
  have mixed : Try.prog.follows .mixedOrders = true := by kernel_rfl
  go_enter Try.func5, Try.ntmps5
  go_wp2_with (go_at_call 11; refine HN.out.mono ?_; rintro e w1 ⟨rfl, hs1, hB1⟩; have HP1 := Lib.hid (show Gp w w.heap.size 1000 64 [] (.slice none 0 0) w1 from ⟨hB1, hs1, Gd.nil_, fun r h => by cases h⟩); clear hs1 hB1)
  have hT0 : (tabL fun _ => false).toArray = #[Value.bool false, Value.bool false, Value.bool false, Value.bool false, Value.bool false, Value.bool false, Value.bool false, Value.bool false, Value.bool false, Value.bool false, Value.bool false, Value.bool false, Value.bool false, Value.bool false, Value.bool false, Value.bool false, Value.bool false, Value.bool false, Value.bool false, Value.bool false, Value.bool false, Value.bool false, Value.bool false, Value.bool false, Value.bool false, Value.bool false, Value.bool false, Value.bool false, Value.bool false, Value.bool false, Value.bool false, Value.bool false, Value.bool false, Value.bool false, Value.bool false, Value.bool false, Value.bool false, Value.bool false, Value.bool false, Value.bool false, Value.bool false, Value.bool false, Value.bool false, Value.bool false, Value.bool false, Value.bool false, Value.bool false, Value.bool false, Value.bool false, Value.bool false, Value.bool false, Value.bool false, Value.bool false, Value.bool false, Value.bool false, Value.bool false, Value.bool false, Value.bool false, Value.bool false, Value.bool false, Value.bool false, Value.bool false, Value.bool false, Value.bool false] := by rfl
  obtain ⟨b4, hb4⟩ : ∃ b4, w1.heap.size = b4 := ⟨_, rfl⟩
  have hST0 : St w w.heap.size b4 [] (.slice none 0 0) (fun _ => false) (w1.alloc (.cells (tabL fun _ => false).toArray 35)) := by
    subst hb4
    exact ⟨HP1.out.below ((Below.refl _ _).alloc (Nat.le_refl _) _), At.new w1 _ _, fun e => (by have := HP1.out.set.at_.lt; omega), fun e => (by cases e), HP1.out.bw.size⟩
  rw [hT0] at hST0
  rw [hb4]
  have HST0 := Lib.hid hST0
  clear hST0 hT0
  generalize World.alloc w1 _ = W0 at *
  go_loopg [5] n (fun kx s5 wr => ∃ (i : Nat) (v : Value) (l : RL) (f : Nat → Bool), s5 = .int .i64 i ∧ i ≤ n ∧ n - i ≤ kx ∧ Hid (St w w.heap.size b4 l v f wr) ∧ Hid (∀ t : Nat, t < 64 → hasL l (t : Int) = f t) ∧ l.length ≤ i ∧ i ≤ 40)
  case atStart => exact ⟨0, _, [], fun _ => false, rfl, Nat.zero_le _, by omega, HST0, Lib.hid (fun _ _ => rfl), Nat.le_refl _, by omega⟩
  case round =>
    obtain ⟨i, v, l, f, rfl, hin, hk, HS, HIN, hlen, hi40⟩ := hrel
    by_cases hlt : i < n ∧ i < 40
    · obtain ⟨hlt, hl60⟩ := hlt
      obtain ⟨d, hi⟩ : ∃ d, L[i]? = some d := ⟨_, List.getElem?_eq_getElem (by rw [HLN.out]; exact hlt)⟩
      obtain ⟨b, off, rfl, hblt, hcell⟩ := HL.out.2.2.2.2 (by omega)
      have ha := hcell i d hi
      have CK0 := Lib.hid ha.ck
      have hak := HL.out.below HS.out.gp.bw
      have hwf := ha.wf
      unfold AskD.wf at hwf
      have cl := (HS.out.gp.bw.cell (p := ⟨b, off + i * 3 + 1, none⟩) hblt).trans ha.cl
      have ch := (HS.out.gp.bw.cell (p := ⟨b, off + i * 3 + 2, none⟩) hblt).trans ha.ch
      clear ha hcell hak hi
      obtain ⟨kk, lo, hi⟩ := d
      simp only at CK0 cl ch hwf
      obtain ⟨a, ha⟩ : ∃ a : Nat, lo % 64 = (a : Int) := ⟨(lo % 64).toNat, by omega⟩
      obtain ⟨e, he⟩ : ∃ e : Nat, hi % 65 = (e : Int) := ⟨(hi % 65).toNat, by omega⟩
      have ha64 : a < 64 := by omega
      have he64 : e ≤ 64 := by omega
      have t1 : lo.tmod 64 = (a : Int) := by rw [Int.tmod_eq_emod_of_nonneg (by omega)]; exact ha
      have t2 : hi.tmod 65 = (e : Int) := by rw [Int.tmod_eq_emod_of_nonneg (by omega)]; exact he
      have hiz : (i : Int) < (n : Int) := by omega
      have hi60 : (i : Int) < 40 := by omega
      clear ha he
      go_wp2_with fail
      go_quiet (fail)
      generalize hW : World.drewN wr _ = W
      have hs2 : St w w.heap.size b4 l v f W := by subst hW; exact HS.out.drewN _
      have ck := (hs2.gp.bw.cell (p := ⟨b, off + i * 3, none⟩) hblt).trans CK0.out
      clear hW cl ch HS
      have HS := Lib.hid hs2
      clear hs2
      by_cases hk1 : kk = 1
      · subst hk1
        have HC := Lib.hid (cut_any' w.heap.size w.heap.size 1000 v l W HS.out.gp.set (by omega) HS.out.gp.gd HS.out.gp.bw.size (by omega) (a : Int) (e : Int) (by omega) (by omega))
        have hll := cut_len HS.out.gp.gd (a : Int) (e : Int) 1000
        have HGC := Lib.hid (cutL_gd HS.out.gp.gd (a : Int) (e : Int) 1000)
        have HBC := Lib.hid (bd_cutL HS.out.gp.bd (a : Int) (e : Int) 1000)
        have hfn : ∀ t : Nat, t < 64 → hasL (cutL l (a : Int) (e : Int) 1000) (t : Int) = if a ≤ t ∧ t < e then false else f t := fun t ht => by
          have hle : (e : Int) ≤ a ∨ ((l.flatMap (cutP a e)).length : Int) ≤ 1000 := by
            by_cases h1 : (e : Int) ≤ a
            · exact .inl h1
            · right
              have := cutP_gdlen (show (a : Int) < e by omega) l HS.out.gp.gd
              omega
          rw [has_cutL hle, HIN.out t ht]
          by_cases h2 : a ≤ t ∧ t < e
          · rw [if_pos h2]
            have : (decide ((a : Int) ≤ t) && decide ((t : Int) < e)) = true := by simp; omega
            rw [this]; simp
          · rw [if_neg h2]
            have : (decide ((a : Int) ≤ t) && decide ((t : Int) < e)) = false := by simp; omega
            rw [this]; simp
        have HFN := Lib.hid hfn
        clear hfn
        generalize cutL l (a : Int) (e : Int) 1000 = l' at *
        go_wp2_with (go_at_call 12; refine HC.out.mono ?_; rintro _ w3 ⟨rfl, v', hs3, hk3, hv3⟩; have HS3 := Lib.hid (HS.out.post hs3 hk3 hv3 HGC.out HBC.out); clear hs3 hk3 hv3)
        go_loopg [8] 65 (fun kx s8 wr' => ∃ (k : Nat), s8 = .int .u64 k ∧ a ≤ k ∧ (k ≤ e ∨ k = a) ∧ 65 - k ≤ kx ∧ Hid (St w w.heap.size b4 l' v' (fun t => if a ≤ t ∧ t < k then false else f t) wr'))
        case atStart => exact ⟨a, rfl, Nat.le_refl _, .inr rfl, by omega, by
          have e0 : (fun t => if a ≤ t ∧ t < a then false else f t) = f := funext fun t => if_neg (by omega)
          rw [e0]
          exact HS3⟩
        case round =>
          obtain ⟨k, rfl, hak, hke, hk2, HSK⟩ := hrel
          by_cases hlk : k < e
          · have hkz : (k : Int) < (e : Int) := by omega
            have hk64 : k < 64 := by omega
            have hkz2 : (k : Int) < 64 := by omega
            have ck3 := (HSK.out.gp.bw.cell (p := ⟨b, off + i * 3, none⟩) hblt).trans CK0.out
            have hwk : IntKind.u64.wrap ((k : Int) + 1) = (k : Int) + 1 := by rw [IntKind.wrap_u64]; omega
            have ct := HSK.out.tab.cell k
            rw [tab_get _ hk64] at ct
            have cf := HSK.out.tab.frozen k
            have hput := HSK.out.put hk64 false
            have e0 : (fun t => if t = k then false else if a ≤ t ∧ t < k then false else f t) = (fun t => if a ≤ t ∧ t < k + 1 then false else f t) := funext fun t => by
              by_cases h1 : t = k
              · rw [if_pos h1, if_pos (by omega)]
              · rw [if_neg h1]
                by_cases h2 : a ≤ t ∧ t < k
                · rw [if_pos h2, if_pos (by omega)]
                · rw [if_neg h2, if_neg (by omega)]
            rw [e0] at hput
            have HPUT := Lib.hid hput
            clear hput e0
            go_wp2
            go_roundg (65 - (k + 1))
            case measure => omega
            case rel => exact ⟨k + 1, by simp, by omega, .inl (by omega), by omega, HPUT⟩
          · have hkz : ¬ (k : Int) < (e : Int) := by omega
            have e0 : (fun t => if a ≤ t ∧ t < k then false else f t) = (fun t => if a ≤ t ∧ t < e then false else f t) := funext fun t => by
              by_cases h2 : a ≤ t ∧ t < k
              · rw [if_pos h2, if_pos (by omega)]
              · rw [if_neg h2, if_neg (by omega)]
            rw [e0] at HSK
            clear e0
            obtain ⟨f', hf'⟩ : ∃ f', (fun t => if a ≤ t ∧ t < e then false else f t) = f' := ⟨_, rfl⟩
            rw [hf'] at HSK
            have hin' : ∀ t : Nat, t < 64 → hasL l' (t : Int) = f' t := fun t ht => by rw [← hf']; exact HFN.out t ht
            have HIN' := Lib.hid hin'
            clear hf' hin'
            have HCP := Lib.hid (copy_any' w.heap.size w.heap.size 1000 v' l' wr HSK.out.gp.set (by omega))
            go_wp2_with (first
              | (go_at_call 14; (with_reducible refine HCP.out.mono ?_); rintro _ w5 ⟨p2, v2, rfl, hs5, hB5⟩; have HS5 := Lib.hid hs5; have HB5 := Lib.hid hB5; have HAC := Lib.hid (all_any' wr.heap.size p2 1000 v2 l' w5 hs5 (by omega)); clear hs5 hB5)
              | (go_at_call 16; (with_reducible refine HAC.out.mono ?_); rintro _ w6 ⟨v6, rfl, hO6, hB6⟩; have hb6 := HB5.out.trans (hB6.mono HB5.out.size); have HB6 := Lib.hid hb6; have HO6 := Lib.hid hO6; have HS6 := Lib.hid (HS5.out.below hB6); have HAS := Lib.hid (all_any' w.heap.size w.heap.size 1000 v' l' w6 (HSK.out.below hb6).gp.set (by omega)); clear hO6 hB6 hb6)
              | (go_at_call 16; (with_reducible refine HAS.out.mono ?_); rintro _ w7 ⟨v7, rfl, hO7, hB7⟩; have hb7 := HB6.out.trans (hB7.mono HB6.out.size); have HB7 := Lib.hid hb7; have HS7 := Lib.hid (HS6.out.below hB7); have HSM := Lib.hid (rsame_l _ _ v6 v7 l' w7 (HO6.out.below hB7) (by omega) hO7); clear hO7 hB7 hb7)
              | (go_at_call 15; (with_reducible refine HSM.out.mono ?_); rintro _ w8 ⟨rfl, hB8⟩; have hb8 := HB7.out.trans (hB8.mono HB7.out.size); have HB8 := Lib.hid hb8; have HAA := Lib.hid (add_any' wr.heap.size p2 1000 v2 l' w8 (HS7.out.below hB8) (by omega) HSK.out.gp.gd hb8.size (by omega) 0 64 (by omega)); have HS8 := Lib.hid (HS7.out.below hB8); clear hB8 hb8)
              | (go_at_call 13; (with_reducible refine HAA.out.mono ?_); rintro _ w9 ⟨rfl, v9, hs9, hk9, hv9⟩; have hb9 : Below wr.heap.size wr w9 := (hk9.below HB8.out HB8.out.size (fun j hj => hj.elim (fun e => e ▸ HS8.out.bp) (fun e => (HS8.out.own.lt j e).1))); have HS9 := Lib.hid (HSK.out.below hb9); clear hs9 hk9 hv9 hb9))
            go_loopg [10, 11] 64 (fun kx s10 s11 wr' => ∃ (k : Nat), s10 = .int .u64 (cntF f' k) ∧ s11 = .int .u64 k ∧ k ≤ 64 ∧ 64 - k ≤ kx ∧ Hid (St w w.heap.size b4 l' v' f' wr'))
            case atStart => exact ⟨0, rfl, rfl, by omega, by omega, HS9⟩
            case round =>
              obtain ⟨k, rfl, rfl, hk64, hk3, HSQ⟩ := hrel
              by_cases hlk2 : k < 64
              · have hkz2 : (k : Int) < 64 := by omega
                have HH := Lib.hid (fun q => has_any' w.heap.size w.heap.size 1000 v' l' (wr.drewN q) (HSQ.out.drewN q).gp.set (by omega) HSQ.out.gp.gd (k : Int))
                rw [HIN'.out k hlk2] at HH
                have ct := HSQ.out.tab.cell k
                rw [tab_get _ hlk2] at ct
                have hcf := cntF_le f' k
                have hcs : cntF f' (k + 1) = cntF f' k + (if f' k then 1 else 0) := rfl
                have hwk : IntKind.u64.wrap ((k : Int) + 1) = (k : Int) + 1 := by rw [IntKind.wrap_u64]; omega
                have hwn : IntKind.u64.wrap (cntF f' k + 1) = cntF f' k + 1 := by rw [IntKind.wrap_u64]; omega
                have HCS := Lib.hid hcs
                clear hcs
                cases hbk : f' k
                · rw [hbk] at ct HH
                  have HBK := Lib.hid hbk
                  clear hbk
                  generalize cntF f' k = x at *
                  go_wp2_with fail
                  go_region_with (go_at_call 17; refine (HH.out 1).mono ?_; rintro _ w11 ⟨rfl, hB11⟩; have hs11 := (HSQ.out.drewN 1).below hB11; have ct2 := hs11.tab.cell k; rw [tab_get _ hlk2, HBK.out] at ct2; have HS11 := Lib.hid hs11; clear hs11 hB11)
                  all_goals go_wp2
                  all_goals go_roundg (64 - (k + 1))
                  all_goals first
                    | omega
                    | exact ⟨k + 1, by rw [HCS.out, HBK.out]; simp, by simp, by omega, by omega, HS11⟩
                · rw [hbk] at ct HH
                  have HBK := Lib.hid hbk
                  clear hbk
                  generalize cntF f' k = x at *
                  go_wp2_with fail
                  go_region_with (go_at_call 17; refine (HH.out 1).mono ?_; rintro _ w11 ⟨rfl, hB11⟩; have hs11 := (HSQ.out.drewN 1).below hB11; have ct2 := hs11.tab.cell k; rw [tab_get _ hlk2, HBK.out] at ct2; have HS11 := Lib.hid hs11; clear hs11 hB11)
                  all_goals go_wp2
                  all_goals go_roundg (64 - (k + 1))
                  all_goals first
                    | omega
                    | exact ⟨k + 1, by rw [HCS.out, HBK.out]; simp, by simp, by omega, by omega, HS11⟩
              · have hkz2 : ¬ (k : Int) < 64 := by omega
                have hk64e : k = 64 := by omega
                have hct := count_any' w.heap.size w.heap.size 1000 v' l' wr HSQ.out.gp.set (by omega) HSQ.out.gp.gd
                have heq : cntL l' = cntF f' k := by
                  rw [hk64e, ← cnt_has l' 64 HSQ.out.gp.gd HSQ.out.gp.bd]
                  exact cntF_congr _ _ 64 (fun t ht => HIN'.out t ht) 64 (Nat.le_refl _)
                rw [heq] at hct
                have HCT := Lib.hid hct
                clear hct heq
                generalize cntF f' k = x at *
                go_wp2_with (go_at_call 18; refine HCT.out.mono ?_; rintro _ w12 ⟨rfl, hB12⟩; have HS12 := Lib.hid (HSQ.out.below hB12); clear hB12)
                go_roundg (n - (i + 1))
                case measure => omega
                case rel => exact ⟨i + 1, v', l', f', by simp, by omega, by omega, HS12, HIN', by omega, by omega⟩
      · have hle : ((addGo l ((a : Int), (e : Int)) false).length : Int) ≤ 1000 := by have := addGo_len l ((a : Int), (e : Int)) false; omega
        have hll := addV_len l (a : Int) (e : Int) 1000
        have HGC := Lib.hid (addV_gd HS.out.gp.gd (a : Int) (e : Int) 1000 (by omega))
        have HBC := Lib.hid (bd_addV HS.out.gp.bd (a : Int) (e : Int) 1000 (by omega))
        have hab := addB_lt HS.out.gp.gd (lo := (a : Int)) (hi := (e : Int)) (by omega) hle
        have hfn : ∀ t : Nat, t < 64 → hasL (addV l (a : Int) (e : Int) 1000) (t : Int) = if a ≤ t ∧ t < e then true else f t := fun t ht => by
          rw [has_addV HS.out.gp.gd (by omega) hle, HIN.out t ht]
          by_cases h2 : a ≤ t ∧ t < e
          · rw [if_pos h2]
            have : (decide ((a : Int) ≤ t) && decide ((t : Int) < e)) = true := by simp; omega
            rw [this]; simp
          · rw [if_neg h2]
            have : (decide ((a : Int) ≤ t) && decide ((t : Int) < e)) = false := by simp; omega
            rw [this]; simp
        have HFN := Lib.hid hfn
        have k1 : (kk == 1) = false := by simpa using hk1
        have k2 : (kk != 1) = true := by simp [bne, k1]
        clear hfn hle
        by_cases hae : (a : Int) < (e : Int)
        · rw [decide_eq_true hae] at hab
          have HC := Lib.hid (add_of HS.out.gp.set HS.out.gp.gd (by omega) HS.out.gp.bw.size (by omega) (by omega) hab rfl)
          clear hab
          generalize addV l (a : Int) (e : Int) 1000 = l' at *
          go_wp2_with (go_at_call 13; refine HC.out.mono ?_; rintro _ w3 ⟨rfl, v', hs3, hk3, hv3⟩; have HS3 := Lib.hid (HS.out.post hs3 hk3 hv3 HGC.out HBC.out); clear hs3 hk3 hv3)
          go_loopg [8] 65 (fun kx s8 wr' => ∃ (k : Nat), s8 = .int .u64 k ∧ a ≤ k ∧ (k ≤ e ∨ k = a) ∧ 65 - k ≤ kx ∧ Hid (St w w.heap.size b4 l' v' (fun t => if a ≤ t ∧ t < k then true else f t) wr'))
          case atStart => exact ⟨a, rfl, Nat.le_refl _, .inr rfl, by omega, by
            have e0 : (fun t => if a ≤ t ∧ t < a then true else f t) = f := funext fun t => if_neg (by omega)
            rw [e0]
            exact HS3⟩
          case round =>
            obtain ⟨k, rfl, hak, hke, hk2, HSK⟩ := hrel
            by_cases hlk : k < e
            · have hkz : (k : Int) < (e : Int) := by omega
              have hk64 : k < 64 := by omega
              have hkz2 : (k : Int) < 64 := by omega
              have ck3 := (HSK.out.gp.bw.cell (p := ⟨b, off + i * 3, none⟩) hblt).trans CK0.out
              have hwk : IntKind.u64.wrap ((k : Int) + 1) = (k : Int) + 1 := by rw [IntKind.wrap_u64]; omega
              have ct := HSK.out.tab.cell k
              rw [tab_get _ hk64] at ct
              have cf := HSK.out.tab.frozen k
              have hput := HSK.out.put hk64 true
              have e0 : (fun t => if t = k then true else if a ≤ t ∧ t < k then true else f t) = (fun t => if a ≤ t ∧ t < k + 1 then true else f t) := funext fun t => by
                by_cases h1 : t = k
                · rw [if_pos h1, if_pos (by omega)]
                · rw [if_neg h1]
                  by_cases h2 : a ≤ t ∧ t < k
                  · rw [if_pos h2, if_pos (by omega)]
                  · rw [if_neg h2, if_neg (by omega)]
              rw [e0] at hput
              have HPUT := Lib.hid hput
              clear hput e0
              go_wp2
              go_roundg (65 - (k + 1))
              case measure => omega
              case rel => exact ⟨k + 1, by simp, by omega, .inl (by omega), by omega, HPUT⟩
            · have hkz : ¬ (k : Int) < (e : Int) := by omega
              have e0 : (fun t => if a ≤ t ∧ t < k then true else f t) = (fun t => if a ≤ t ∧ t < e then true else f t) := funext fun t => by
                by_cases h2 : a ≤ t ∧ t < k
                · rw [if_pos h2, if_pos (by omega)]
                · rw [if_neg h2, if_neg (by omega)]
              rw [e0] at HSK
              clear e0
              obtain ⟨f', hf'⟩ : ∃ f', (fun t => if a ≤ t ∧ t < e then true else f t) = f' := ⟨_, rfl⟩
              rw [hf'] at HSK
              have hin' : ∀ t : Nat, t < 64 → hasL l' (t : Int) = f' t := fun t ht => by rw [← hf']; exact HFN.out t ht
              have HIN' := Lib.hid hin'
              clear hf' hin'
              have HCP := Lib.hid (copy_any' w.heap.size w.heap.size 1000 v' l' wr HSK.out.gp.set (by omega))
              go_wp2_with (first
                | (go_at_call 14; (with_reducible refine HCP.out.mono ?_); rintro _ w5 ⟨p2, v2, rfl, hs5, hB5⟩; have HS5 := Lib.hid hs5; have HB5 := Lib.hid hB5; have HAC := Lib.hid (all_any' wr.heap.size p2 1000 v2 l' w5 hs5 (by omega)); clear hs5 hB5)
                | (go_at_call 16; (with_reducible refine HAC.out.mono ?_); rintro _ w6 ⟨v6, rfl, hO6, hB6⟩; have hb6 := HB5.out.trans (hB6.mono HB5.out.size); have HB6 := Lib.hid hb6; have HO6 := Lib.hid hO6; have HS6 := Lib.hid (HS5.out.below hB6); have HAS := Lib.hid (all_any' w.heap.size w.heap.size 1000 v' l' w6 (HSK.out.below hb6).gp.set (by omega)); clear hO6 hB6 hb6)
                | (go_at_call 16; (with_reducible refine HAS.out.mono ?_); rintro _ w7 ⟨v7, rfl, hO7, hB7⟩; have hb7 := HB6.out.trans (hB7.mono HB6.out.size); have HB7 := Lib.hid hb7; have HS7 := Lib.hid (HS6.out.below hB7); have HSM := Lib.hid (rsame_l _ _ v6 v7 l' w7 (HO6.out.below hB7) (by omega) hO7); clear hO7 hB7 hb7)
                | (go_at_call 15; (with_reducible refine HSM.out.mono ?_); rintro _ w8 ⟨rfl, hB8⟩; have hb8 := HB7.out.trans (hB8.mono HB7.out.size); have HB8 := Lib.hid hb8; have HAA := Lib.hid (add_any' wr.heap.size p2 1000 v2 l' w8 (HS7.out.below hB8) (by omega) HSK.out.gp.gd hb8.size (by omega) 0 64 (by omega)); have HS8 := Lib.hid (HS7.out.below hB8); clear hB8 hb8)
                | (go_at_call 13; (with_reducible refine HAA.out.mono ?_); rintro _ w9 ⟨rfl, v9, hs9, hk9, hv9⟩; have hb9 : Below wr.heap.size wr w9 := (hk9.below HB8.out HB8.out.size (fun j hj => hj.elim (fun e => e ▸ HS8.out.bp) (fun e => (HS8.out.own.lt j e).1))); have HS9 := Lib.hid (HSK.out.below hb9); clear hs9 hk9 hv9 hb9))
              go_loopg [10, 11] 64 (fun kx s10 s11 wr' => ∃ (k : Nat), s10 = .int .u64 (cntF f' k) ∧ s11 = .int .u64 k ∧ k ≤ 64 ∧ 64 - k ≤ kx ∧ Hid (St w w.heap.size b4 l' v' f' wr'))
              case atStart => exact ⟨0, rfl, rfl, by omega, by omega, HS9⟩
              case round =>
                obtain ⟨k, rfl, rfl, hk64, hk3, HSQ⟩ := hrel
                by_cases hlk2 : k < 64
                · have hkz2 : (k : Int) < 64 := by omega
                  have HH := Lib.hid (fun q => has_any' w.heap.size w.heap.size 1000 v' l' (wr.drewN q) (HSQ.out.drewN q).gp.set (by omega) HSQ.out.gp.gd (k : Int))
                  rw [HIN'.out k hlk2] at HH
                  have ct := HSQ.out.tab.cell k
                  rw [tab_get _ hlk2] at ct
                  have hcf := cntF_le f' k
                  have hcs : cntF f' (k + 1) = cntF f' k + (if f' k then 1 else 0) := rfl
                  have hwk : IntKind.u64.wrap ((k : Int) + 1) = (k : Int) + 1 := by rw [IntKind.wrap_u64]; omega
                  have hwn : IntKind.u64.wrap (cntF f' k + 1) = cntF f' k + 1 := by rw [IntKind.wrap_u64]; omega
                  have HCS := Lib.hid hcs
                  clear hcs
                  cases hbk : f' k
                  · rw [hbk] at ct HH
                    have HBK := Lib.hid hbk
                    clear hbk
                    generalize cntF f' k = x at *
                    go_wp2_with fail
                    go_region_with (go_at_call 17; refine (HH.out 1).mono ?_; rintro _ w11 ⟨rfl, hB11⟩; have hs11 := (HSQ.out.drewN 1).below hB11; have ct2 := hs11.tab.cell k; rw [tab_get _ hlk2, HBK.out] at ct2; have HS11 := Lib.hid hs11; clear hs11 hB11)
                    all_goals go_wp2
                    all_goals go_roundg (64 - (k + 1))
                    all_goals first
                      | omega
                      | exact ⟨k + 1, by rw [HCS.out, HBK.out]; simp, by simp, by omega, by omega, HS11⟩
                  · rw [hbk] at ct HH
                    have HBK := Lib.hid hbk
                    clear hbk
                    generalize cntF f' k = x at *
                    go_wp2_with fail
                    go_region_with (go_at_call 17; refine (HH.out 1).mono ?_; rintro _ w11 ⟨rfl, hB11⟩; have hs11 := (HSQ.out.drewN 1).below hB11; have ct2 := hs11.tab.cell k; rw [tab_get _ hlk2, HBK.out] at ct2; have HS11 := Lib.hid hs11; clear hs11 hB11)
                    all_goals go_wp2
                    all_goals go_roundg (64 - (k + 1))
                    all_goals first
                      | omega
                      | exact ⟨k + 1, by rw [HCS.out, HBK.out]; simp, by simp, by omega, by omega, HS11⟩
                · have hkz2 : ¬ (k : Int) < 64 := by omega
                  have hk64e : k = 64 := by omega
                  have hct := count_any' w.heap.size w.heap.size 1000 v' l' wr HSQ.out.gp.set (by omega) HSQ.out.gp.gd
                  have heq : cntL l' = cntF f' k := by
                    rw [hk64e, ← cnt_has l' 64 HSQ.out.gp.gd HSQ.out.gp.bd]
                    exact cntF_congr _ _ 64 (fun t ht => HIN'.out t ht) 64 (Nat.le_refl _)
                  rw [heq] at hct
                  have HCT := Lib.hid hct
                  clear hct heq
                  generalize cntF f' k = x at *
                  go_wp2_with (go_at_call 18; refine HCT.out.mono ?_; rintro _ w12 ⟨rfl, hB12⟩; have HS12 := Lib.hid (HSQ.out.below hB12); clear hB12)
                  go_roundg (n - (i + 1))
                  case measure => omega
                  case rel => exact ⟨i + 1, v', l', f', by simp, by omega, by omega, HS12, HIN', by omega, by omega⟩
        · rw [decide_eq_false hae] at hab
          have HC := Lib.hid (add_of HS.out.gp.set HS.out.gp.gd (by omega) HS.out.gp.bw.size (by omega) (by omega) hab rfl)
          clear hab
          generalize addV l (a : Int) (e : Int) 1000 = l' at *
          go_wp2_with (go_at_call 13; refine HC.out.mono ?_; rintro _ w3 ⟨rfl, v', hs3, hk3, hv3⟩; have HS3 := Lib.hid (HS.out.post hs3 hk3 hv3 HGC.out HBC.out); clear hs3 hk3 hv3)
          go_loopg [8] 65 (fun kx s8 wr' => ∃ (k : Nat), s8 = .int .u64 k ∧ a ≤ k ∧ (k ≤ e ∨ k = a) ∧ 65 - k ≤ kx ∧ Hid (St w w.heap.size b4 l' v' (fun t => if a ≤ t ∧ t < k then true else f t) wr'))
          case atStart => exact ⟨a, rfl, Nat.le_refl _, .inr rfl, by omega, by
            have e0 : (fun t => if a ≤ t ∧ t < a then true else f t) = f := funext fun t => if_neg (by omega)
            rw [e0]
            exact HS3⟩
          case round =>
            obtain ⟨k, rfl, hak, hke, hk2, HSK⟩ := hrel
            by_cases hlk : k < e
            · exact absurd hlk (by omega)
            · have hkz : ¬ (k : Int) < (e : Int) := by omega
              have e0 : (fun t => if a ≤ t ∧ t < k then true else f t) = (fun t => if a ≤ t ∧ t < e then true else f t) := funext fun t => by
                by_cases h2 : a ≤ t ∧ t < k
                · rw [if_pos h2, if_pos (by omega)]
                · rw [if_neg h2, if_neg (by omega)]
              rw [e0] at HSK
              clear e0
              obtain ⟨f', hf'⟩ : ∃ f', (fun t => if a ≤ t ∧ t < e then true else f t) = f' := ⟨_, rfl⟩
              rw [hf'] at HSK
              have hin' : ∀ t : Nat, t < 64 → hasL l' (t : Int) = f' t := fun t ht => by rw [← hf']; exact HFN.out t ht
              have HIN' := Lib.hid hin'
              clear hf' hin'
              have HCP := Lib.hid (copy_any' w.heap.size w.heap.size 1000 v' l' wr HSK.out.gp.set (by omega))
              go_wp2_with (first
                | (go_at_call 14; (with_reducible refine HCP.out.mono ?_); rintro _ w5 ⟨p2, v2, rfl, hs5, hB5⟩; have HS5 := Lib.hid hs5; have HB5 := Lib.hid hB5; have HAC := Lib.hid (all_any' wr.heap.size p2 1000 v2 l' w5 hs5 (by omega)); clear hs5 hB5)
                | (go_at_call 16; (with_reducible refine HAC.out.mono ?_); rintro _ w6 ⟨v6, rfl, hO6, hB6⟩; have hb6 := HB5.out.trans (hB6.mono HB5.out.size); have HB6 := Lib.hid hb6; have HO6 := Lib.hid hO6; have HS6 := Lib.hid (HS5.out.below hB6); have HAS := Lib.hid (all_any' w.heap.size w.heap.size 1000 v' l' w6 (HSK.out.below hb6).gp.set (by omega)); clear hO6 hB6 hb6)
                | (go_at_call 16; (with_reducible refine HAS.out.mono ?_); rintro _ w7 ⟨v7, rfl, hO7, hB7⟩; have hb7 := HB6.out.trans (hB7.mono HB6.out.size); have HB7 := Lib.hid hb7; have HS7 := Lib.hid (HS6.out.below hB7); have HSM := Lib.hid (rsame_l _ _ v6 v7 l' w7 (HO6.out.below hB7) (by omega) hO7); clear hO7 hB7 hb7)
                | (go_at_call 15; (with_reducible refine HSM.out.mono ?_); rintro _ w8 ⟨rfl, hB8⟩; have hb8 := HB7.out.trans (hB8.mono HB7.out.size); have HB8 := Lib.hid hb8; have HAA := Lib.hid (add_any' wr.heap.size p2 1000 v2 l' w8 (HS7.out.below hB8) (by omega) HSK.out.gp.gd hb8.size (by omega) 0 64 (by omega)); have HS8 := Lib.hid (HS7.out.below hB8); clear hB8 hb8)
                | (go_at_call 13; (with_reducible refine HAA.out.mono ?_); rintro _ w9 ⟨rfl, v9, hs9, hk9, hv9⟩; have hb9 : Below wr.heap.size wr w9 := (hk9.below HB8.out HB8.out.size (fun j hj => hj.elim (fun e => e ▸ HS8.out.bp) (fun e => (HS8.out.own.lt j e).1))); have HS9 := Lib.hid (HSK.out.below hb9); clear hs9 hk9 hv9 hb9))
              go_loopg [10, 11] 64 (fun kx s10 s11 wr' => ∃ (k : Nat), s10 = .int .u64 (cntF f' k) ∧ s11 = .int .u64 k ∧ k ≤ 64 ∧ 64 - k ≤ kx ∧ Hid (St w w.heap.size b4 l' v' f' wr'))
              case atStart => exact ⟨0, rfl, rfl, by omega, by omega, HS9⟩
              case round =>
                obtain ⟨k, rfl, rfl, hk64, hk3, HSQ⟩ := hrel
                by_cases hlk2 : k < 64
                · have hkz2 : (k : Int) < 64 := by omega
                  have HH := Lib.hid (fun q => has_any' w.heap.size w.heap.size 1000 v' l' (wr.drewN q) (HSQ.out.drewN q).gp.set (by omega) HSQ.out.gp.gd (k : Int))
                  rw [HIN'.out k hlk2] at HH
                  have ct := HSQ.out.tab.cell k
                  rw [tab_get _ hlk2] at ct
                  have hcf := cntF_le f' k
                  have hcs : cntF f' (k + 1) = cntF f' k + (if f' k then 1 else 0) := rfl
                  have hwk : IntKind.u64.wrap ((k : Int) + 1) = (k : Int) + 1 := by rw [IntKind.wrap_u64]; omega
                  have hwn : IntKind.u64.wrap (cntF f' k + 1) = cntF f' k + 1 := by rw [IntKind.wrap_u64]; omega
                  have HCS := Lib.hid hcs
                  clear hcs
                  cases hbk : f' k
                  · rw [hbk] at ct HH
                    have HBK := Lib.hid hbk
                    clear hbk
                    generalize cntF f' k = x at *
                    go_wp2_with fail
                    go_region_with (go_at_call 17; refine (HH.out 1).mono ?_; rintro _ w11 ⟨rfl, hB11⟩; have hs11 := (HSQ.out.drewN 1).below hB11; have ct2 := hs11.tab.cell k; rw [tab_get _ hlk2, HBK.out] at ct2; have HS11 := Lib.hid hs11; clear hs11 hB11)
                    all_goals go_wp2
                    all_goals go_roundg (64 - (k + 1))
                    all_goals first
                      | omega
                      | exact ⟨k + 1, by rw [HCS.out, HBK.out]; simp, by simp, by omega, by omega, HS11⟩
                  · rw [hbk] at ct HH
                    have HBK := Lib.hid hbk
                    clear hbk
                    generalize cntF f' k = x at *
                    go_wp2_with fail
                    go_region_with (go_at_call 17; refine (HH.out 1).mono ?_; rintro _ w11 ⟨rfl, hB11⟩; have hs11 := (HSQ.out.drewN 1).below hB11; have ct2 := hs11.tab.cell k; rw [tab_get _ hlk2, HBK.out] at ct2; have HS11 := Lib.hid hs11; clear hs11 hB11)
                    all_goals go_wp2
                    all_goals go_roundg (64 - (k + 1))
                    all_goals first
                      | omega
                      | exact ⟨k + 1, by rw [HCS.out, HBK.out]; simp, by simp, by omega, by omega, HS11⟩
                · have hkz2 : ¬ (k : Int) < 64 := by omega
                  have hk64e : k = 64 := by omega
                  have hct := count_any' w.heap.size w.heap.size 1000 v' l' wr HSQ.out.gp.set (by omega) HSQ.out.gp.gd
                  have heq : cntL l' = cntF f' k := by
                    rw [hk64e, ← cnt_has l' 64 HSQ.out.gp.gd HSQ.out.gp.bd]
                    exact cntF_congr _ _ 64 (fun t ht => HIN'.out t ht) 64 (Nat.le_refl _)
                  rw [heq] at hct
                  have HCT := Lib.hid hct
                  clear hct heq
                  generalize cntF f' k = x at *
                  go_wp2_with (go_at_call 18; refine HCT.out.mono ?_; rintro _ w12 ⟨rfl, hB12⟩; have HS12 := Lib.hid (HSQ.out.below hB12); clear hB12)
                  go_roundg (n - (i + 1))
                  case measure => omega
                  case rel => exact ⟨i + 1, v', l', f', by simp, by omega, by omega, HS12, HIN', by omega, by omega⟩
    · have hex : ¬ (i : Int) < (n : Int) ∨ ((i : Int) < (n : Int) ∧ ¬ (i : Int) < 40) := by omega
      clear hlt hin hk
      have HBE := Lib.hid HS.out.gp.bw
      rcases hex with hex | ⟨hex1, hex2⟩
      · go_wp2_with (go_at_call 8; refine (known_any _).mono ?_; rintro _ w6 ⟨rfl, hB6⟩; have HB6 := Lib.hid (HBE.out.trans (hB6.mono HBE.out.size)); clear hB6)
        go_ret
        exact ⟨rfl, HB6.out⟩
      · go_wp2_with (go_at_call 8; refine (known_any _).mono ?_; rintro _ w6 ⟨rfl, hB6⟩; have HB6 := Lib.hid (HBE.out.trans (hB6.mono HBE.out.size)); clear hB6)
        go_ret
        exact ⟨rfl, HB6.out⟩
end Go.Proofs.Ytoooinjhcgpbgaa
