/-
  SentThree.
-/
import Derived.Test.YtmdkfaklalfmdaaUk
namespace Go.Proofs.Ytmdkfaklalfmdaa
set_option linter.unusedVariables false
set_option linter.unusedSimpArgs false
open Go.RowKit
/-- What is told of the packets that are left. -/
theorem three_end (a b c : Nat) (rest : PL) (o : PK) (ok : Bool) (cr : rest.map PK.core = (List.range' a b).map tP ++ (List.range' (a + b + 1) c).map tP) (h : OldIs rest o ok) :
    (ok = false ∧ b = 0 ∧ c = 0 ∧ lastT rest = #[.int .i64 0, .bool false]) ∨
    (ok = true ∧ 0 < b + c ∧ ∃ t : Int, lastT rest = #[.int .i64 t, .bool true] ∧ (o.n = (a : Int) ∨ (b = 0 ∧ o.n = (a : Int) + 1)) ∧ (t = ((a + b + c : Nat) : Int) ∨ (c = 0 ∧ 0 < b ∧ t = ((a + b : Nat) : Int) - 1))) := by
  have hh := rest_head a b c
  have hl := rest_last a b c
  rw [← cr] at hh hl
  cases rest with
  | nil =>
    have h0 : b = 0 ∧ c = 0 := by
      rcases Nat.eq_zero_or_pos b with h1 | h1
      · rcases Nat.eq_zero_or_pos c with h2 | h2
        · exact ⟨h1, h2⟩
        · rw [if_neg (by omega), if_pos h2] at hh; cases hh
      · rw [if_pos h1] at hh; cases hh
    exact .inl ⟨h.2, h0.1, h0.2, rfl⟩
  | cons r t =>
    obtain ⟨z, hz⟩ : ∃ z, (r :: t).getLast? = some z := ⟨_, List.getLast?_eq_some_getLast (by simp)⟩
    have hlz : ((r :: t).map PK.core).getLast? = some z.core := by rw [List.getLast?_map, hz]; rfl
    rw [hlz] at hl
    have hhr : ((r :: t).map PK.core).head? = some r.core := rfl
    rw [hhr] at hh
    have hon : o.n = r.core.n := congrArg PC.n h.1
    have hlT : lastT (r :: t) = #[.int .i64 z.t, .bool true] := by unfold lastT; rw [hz]
    have hzt : z.t = z.core.t := rfl
    refine .inr ⟨h.2, ?_, z.t, hlT, ?_, ?_⟩
    · rcases Nat.eq_zero_or_pos b with h1 | h1
      · rcases Nat.eq_zero_or_pos c with h2 | h2
        · rw [if_neg (by omega), if_neg (by omega)] at hh; cases hh
        · omega
      · omega
    · rcases Nat.eq_zero_or_pos b with h1 | h1
      · rcases Nat.eq_zero_or_pos c with h2 | h2
        · rw [if_neg (by omega), if_neg (by omega)] at hh; cases hh
        · rw [if_neg (by omega), if_pos h2] at hh
          injection hh with hh
          exact .inr ⟨h1, by rw [hon, hh]; simp [tP]⟩
      · rw [if_pos h1] at hh
        injection hh with hh
        exact .inl (by rw [hon, hh]; simp [tP])
    · rcases Nat.eq_zero_or_pos c with h2 | h2
      · rcases Nat.eq_zero_or_pos b with h1 | h1
        · rw [if_neg (by omega), if_neg (by omega)] at hl; cases hl
        · rw [if_neg (by omega), if_pos h1] at hl
          injection hl with hl
          exact .inr ⟨h2, h1, by rw [hzt, hl]; simp [tP]; omega⟩
      · rw [if_pos h2] at hl
        injection hl with hl
        exact .inl (by rw [hzt, hl]; simp [tP])
set_option maxRecDepth 100000 in
set_option maxHeartbeats 8000000 in
theorem three_law (n at_ : Int) (w : World) (hn : -9223372036854775808 ≤ n ∧ n < 9223372036854775808) (ha : -9223372036854775808 ≤ at_ ∧ at_ < 9223372036854775808) :
    Calls Try.prog 6 #[.int .i64 n, .int .i64 at_] w fun e w' => e = .returned (.bool true) ∧ Below w.heap.size w w' := by
  have HHN := Lib.hid hn
  have HHA := Lib.hid ha
  clear hn ha
  go_enter Try.func6, Try.ntmps6
  go_wp2_with fail
  refine (snew_any _).mono ?_
  rintro e w1 ⟨rfl, hl1, hb1⟩
  have HK : Hid (KS w w1 w.heap.size 0 (.slice none 0 0) [] (tC 0)) := Lib.hid ⟨hl1, rfl, hb1⟩
  obtain ⟨sp, hsp⟩ : ∃ x, w.heap.size = x := ⟨_, rfl⟩
  rw [hsp] at HK ⊢
  have HSP := Lib.hid hsp
  clear hl1 hb1 hsp
  go_wp2_with fail
  refine (within11_any n 1 60 _ HHN.out (by omega) (by omega) (by omega)).mono ?_
  rintro e w2 ⟨kz, rfl, hk1, hk2, rfl⟩
  obtain ⟨k, rfl⟩ : ∃ k : Nat, kz = (k : Int) := ⟨kz.toNat, by omega⟩
  go_wp2
  go_loopg [7] k (fun kx s7 wr => ∃ (i : Nat) (v : Value) (l : PL), s7 = .int .i64 i ∧ i ≤ k ∧ k - i ≤ kx ∧ Hid (KS w wr sp i v l (tC i)))
  case atStart => exact ⟨0, _, _, rfl, by omega, by omega, HK⟩
  case round =>
    clear HK
    obtain ⟨i, v, l, rfl, hik, hkx, hk⟩ := hrel
    by_cases hlt : i < k
    · have hll : l.length = i := by rw [len_core, hk.out.core, tC_len]
      have hA := sadd_yes hk.out.lv ⟨(i : Int), (i : Int), 10, true, none, 0, 0⟩ (FrOk.nil_ _ _ _ _ _ _) (by omega) (by omega) (by unfold addBad; simp; omega) (by omega)
      have HA : Hid (Calls Try.prog 10 #[.pointer (some ⟨sp, 0, none⟩), .agg #[.int .u64 i, .int .i64 i, .int .i64 10, .bool true, .slice none 0 0]] wr _) := Lib.hid hA
      have hiz : (i : Int) < (k : Int) := by omega
      clear hA
      go_wp2_with fail
      refine HA.out.mono ?_
      rintro e w2 ⟨rfl, v2, A2, c2, hl2, hk3, hv2⟩
      have hb2 : Below sp w w2 := hk3.below hk.out.bl (by have := hk.out.bl.size; have := HSP.out; omega) (fun j hj => by
        rcases hj with hj | hj
        · omega
        · exact (ownG_lt hk.out.lv.own j hj).1)
      have hc2 : (l ++ [PK.put ⟨(i : Int), (i : Int), 10, true, none, 0, 0⟩ A2 c2]).map PK.core = tC (i + 1) := by rw [List.map_append, hk.out.core, tC_succ]; rfl
      have HK : Hid (KS w w2 sp ((i + 1 : Nat) : Int) v2 (l ++ [PK.put ⟨(i : Int), (i : Int), 10, true, none, 0, 0⟩ A2 c2]) (tC (i + 1))) := Lib.hid ⟨hl2, hc2, hb2⟩
      clear hl2 hk3 hv2 hb2 hc2 HA hk
      go_wp2
      go_roundg (k - (i + 1))
      case measure => omega
      case rel => exact ⟨i + 1, v2, _, by simp, by omega, by omega, HK⟩
    · obtain rfl : i = k := by omega
      have hnlt : ¬ (i : Int) < (i : Int) := by omega
      go_wp2_with fail
      refine (within11_any at_ 0 ((i : Int) - 1) _ HHA.out (by omega) (by omega) (by omega)).mono ?_
      rintro e w2 ⟨jz, rfl, hj1, hj2, rfl⟩
      obtain ⟨j, rfl⟩ : ∃ j : Nat, jz = (j : Int) := ⟨jz.toNat, by omega⟩
      obtain ⟨a, ha⟩ : ∃ a : Nat, a = j - 2 := ⟨_, rfl⟩
      obtain ⟨b, hb⟩ : ∃ b : Nat, b = j - a := ⟨_, rfl⟩
      obtain ⟨c, hc⟩ : ∃ c : Nat, c = i - 1 - j := ⟨_, rfl⟩
      have hja : j = a + b := by omega
      have hia : i = a + b + 1 + c := by omega
      have hb3 : a + b < a + 3 := by omega
      have hab : a = 0 ∨ b = 2 := by omega
      have hcore := hk.out.core
      have hll : l.length = i := by rw [len_core, hcore, tC_len]
      have hlv := hk.out.lv
      have hplt := hlv.at_.lt
      have hmem := mem_core hcore (Q := fun c => 0 ≤ c.n ∧ c.n < 100) (fun c hc => by obtain ⟨q, h1, h2, rfl⟩ := rg_mem hc; unfold tP; simp only; omega)
      have hax : Below w2.heap.size w2 (w2.alloc (.cells #[.int .u64 j, .int .u64 ((j : Int) + 1)] 38)) := (Below.refl _ _).alloc (Nat.le_refl _) _
      have hA := sack_yes (· = w2.heap.size) (some ⟨w2.heap.size, 0, none⟩) 1 1 (oneR j) ((j : Int), (j : Int) + 1) (hlv.below hax) (RnP.one w2 _ (j : Int) ((j : Int) + 1) rfl (by omega) (by omega)) (by omega) (Nat.le_refl _) (by unfold maxLen; omega) (by omega) (by omega) (fun r hr => by have := hmem r hr; unfold PK.core at this; simp only at this; omega) (by omega) (by omega) (MayR.one _ _ (by omega)) rfl (by show (j : Int) + 1 ≤ _; omega)
      rw [show max (0 : Int) (((j : Int), (j : Int) + 1).2 - 1) = ((a + b : Nat) : Int) by simp only; omega] at hA
      have HA := Lib.hid hA
      have HB := Lib.hid (hk.out.bl.trans (hax.mono (by have := hk.out.bl.size; have := HSP.out; omega)))
      have HCORE := Lib.hid (show l.map PK.core = tC (a + b + 1 + c) by rw [hcore, hia])
      have HQ := Lib.hid (And.intro hja (And.intro hia (And.intro hb3 hab)))
      have HLL := Lib.hid hll
      clear hA hlv hmem hax hk hplt hkx hlt hnlt hcore hll ha hb hc hja hia hb3 hab
      go_wp2_with fail
      refine HA.out.mono ?_
      rintro e w3 ⟨vg, vl, vr, rfl, hl3, hg3, hlo3, hk3⟩
      have cg : (l.filter (fun r => hasL (oneR j) r.n)).map PK.core = [tP j] := by
        rw [filt_core l (hasL (oneR j)), HCORE.out, HQ.out.1, three_got]
      have cl : ((l.filter (fun r => !hasL (oneR j) r.n)).filter (fun r => decide (r.n + 3 ≤ ((a + b : Nat) : Int)))).map PK.core = (List.range' 0 a).map tP := by
        rw [filt_core _ (fun n => decide (n + 3 ≤ ((a + b : Nat) : Int))), filt_core l (fun n => !hasL (oneR j) n), HCORE.out, HQ.out.1, three_not, three_lost a b c HQ.out.2.2.1 HQ.out.2.2.2]
      have cr : ((l.filter (fun r => !hasL (oneR j) r.n)).filter (fun r => !decide (r.n + 3 ≤ ((a + b : Nat) : Int)))).map PK.core = (List.range' a b).map tP ++ (List.range' (a + b + 1) c).map tP := by
        rw [filt_core _ (fun n => !decide (n + 3 ≤ ((a + b : Nat) : Int))), filt_core l (fun n => !hasL (oneR j) n), HCORE.out, HQ.out.1, three_not, three_rest a b c HQ.out.2.2.1 HQ.out.2.2.2]
      obtain ⟨rest, hrest⟩ : ∃ x, (l.filter (fun r => !hasL (oneR j) r.n)).filter (fun r => !decide (r.n + 3 ≤ ((a + b : Nat) : Int))) = x := ⟨_, rfl⟩
      obtain ⟨lost, hlost⟩ : ∃ x, (l.filter (fun r => !hasL (oneR j) r.n)).filter (fun r => decide (r.n + 3 ≤ ((a + b : Nat) : Int))) = x := ⟨_, rfl⟩
      obtain ⟨got, hgot⟩ : ∃ x, l.filter (fun r => hasL (oneR j) r.n) = x := ⟨_, rfl⟩
      rw [hrest] at hl3 cr
      rw [hlost] at hlo3 cl
      rw [hgot] at hg3 cg
      clear hrest hlost hgot
      obtain ⟨r0, rfl, hr0⟩ : ∃ r0, got = [r0] ∧ r0.core = tP j := by
        cases got with
        | nil => cases cg
        | cons r0 t =>
          cases t with
          | nil => exact ⟨r0, rfl, by simpa using cg⟩
          | cons _ _ => simp at cg
      have hlol : lost.length = a := by rw [len_core, cl]; simp
      have hrl : rest.length = b + c := by rw [len_core, cr]; simp
      have hsum : sumS rest = 10 * ((b + c : Nat) : Int) := by
        rw [sumS_core, rest_sum _ (fun x hx => ?_), ← hrl, len_core rest]
        rw [cr] at hx
        rcases List.mem_append.1 hx with hx | hx
        · obtain ⟨q, _, _, rfl⟩ := rg_mem hx; rfl
        · obtain ⟨q, _, _, rfl⟩ := rg_mem hx; rfl
      have hrb : ∀ r ∈ rest, 0 ≤ r.s ∧ r.s ≤ 512 := mem_core cr (Q := fun c => 0 ≤ c.s ∧ c.s ≤ 512) (fun x hx => by
        rcases List.mem_append.1 hx with hx | hx
        · obtain ⟨q, _, _, rfl⟩ := rg_mem hx; unfold tP; simp only; omega
        · obtain ⟨q, _, _, rfl⟩ := rg_mem hx; unfold tP; simp only; omega)
      obtain ⟨gg, cgc, rfl, _, _, hpk0⟩ := ownP_at hg3 (i := 0) (r := r0) rfl
      have cn0 := hpk0.cn
      rw [show r0.n = (j : Int) from congrArg PC.n hr0] at cn0
      obtain ⟨Al, clc, rfl, hlc1, hlc2⟩ := ownG_shape hlo3
      rw [hlol] at hlc1 ⊢
      have hB3 : Below sp w w3 := hk3.below HB.out (by have := HB.out.size; have := HSP.out; omega) (fun q hq => by omega)
      have HLO := Lib.hid hlo3
      have HL3 := Lib.hid hl3
      have HB3 := Lib.hid hB3
      have HCL := Lib.hid cl
      have HCR := Lib.hid cr
      have HLO_ := Lib.hid hlol
      have HRL := Lib.hid hrl
      have HSUM := Lib.hid hsum
      have HRB := Lib.hid hrb
      clear hlo3 hl3 hB3 cl cr cg hlol hrl hsum hrb hr0 hpk0 hg3 hk3 HA
      have hw0 : IntKind.i64.wrap ((j : Int) - 2) = (j : Int) - 2 := by rw [IntKind.wrap_i64]; omega
      simp only [Nat.zero_mul] at cn0
      have ha60 : a ≤ 60 := by have := HQ.out; omega
      have hmx3 : ((a : Int) != if (2 : Int) < (j : Int) then (j : Int) - 2 else 0) = false := by
        rw [show (if (2 : Int) < (j : Int) then (j : Int) - 2 else 0) = (a : Int) by have := HQ.out; split <;> omega]
        simp
      go_wp2
      all_goals
        clear hmx3
        go_loopg [12] a (fun kx s12 wr => ∃ (q : Nat), s12 = .int .i64 q ∧ q ≤ a ∧ a - q ≤ kx ∧ wr = w3)
        case atStart => exact ⟨0, rfl, by omega, by omega, rfl⟩
        case round =>
          obtain ⟨q, rfl, hqa, hqx, rfl⟩ := hrel
          by_cases hlt : q < a
          · first
            | (exfalso; have h9 := HQ.out; omega)
            | (have hqz : (q : Int) < (a : Int) := by omega
               obtain ⟨r, hr⟩ : ∃ r, lost[q]? = some r := ⟨_, List.getElem?_eq_getElem (by rw [HLO_.out]; exact hlt)⟩
               have hrn : r.n = (q : Int) := by
                 have h1 : (lost.map PK.core)[q]? = some r.core := by rw [List.getElem?_map, hr]; rfl
                 rw [HCL.out, List.getElem?_map, List.getElem?_range' hlt] at h1
                 injection h1 with h1
                 have h2 := congrArg PC.n h1
                 unfold tP PK.core at h2
                 simp only at h2
                 omega
               obtain ⟨g, c2, hgv, _, _, hpk⟩ := ownP_at HLO.out hr
               injection hgv with e1 e2 e3
               subst e1; subst e3
               clear e2
               have cn := hpk.cn
               rw [hrn] at cn
               clear hpk hr hrn
               go_wp2
               go_roundg (a - (q + 1))
               case measure => omega
               case rel => exact ⟨q + 1, by simp, by omega, by omega, rfl⟩)
          · obtain rfl : q = a := by omega
            have hqz : ¬ (q : Int) < (q : Int) := by omega
            have HO := Lib.hid (soldest_any HL3.out (by have := HRL.out; have := HQ.out; omega))
            have hwr : IntKind.i64.wrap ((i : Int) - 1 - (q : Int)) = (i : Int) - 1 - (q : Int) := by rw [IntKind.wrap_i64]; have := HQ.out; omega
            go_wp2_with fail
            refine HO.out.mono ?_
            rintro e w4 ⟨o, ok, rfl, hio, hb4⟩
            have HEND := Lib.hid (three_end q b c rest o ok HCR.out hio)
            obtain ⟨on, ot, os, oa, oA, okk, oc⟩ := o
            simp only at HEND
            have hbx : Below w4.heap.size w4 (w4.alloc (.cells #[.int .u64 on, .int .i64 ot, .int .i64 os, .bool oa, .slice oA okk oc] 31)) := (Below.refl _ _).alloc (Nat.le_refl _) _
            have hX := At.new w4 31 [.int .u64 on, .int .i64 ot, .int .i64 os, .bool oa, .slice oA okk oc]
            have hL4 := (HL3.out.below hb4).below hbx
            have hB4 := HB3.out.trans ((hb4.trans (hbx.mono hb4.size)).mono (by have := HB3.out.size; have := HSP.out; omega))
            have HLA := Lib.hid (slast_any hL4 (by have := HRL.out; have := HQ.out; omega))
            have HX := Lib.hid hX
            have HL4 := Lib.hid hL4
            have HB4 := Lib.hid hB4
            clear hio hb4 hbx hX hL4 hB4 HO
            rw [show Value.agg (pkC ⟨on, ot, os, oa, oA, okk, oc⟩).toArray = .agg #[.int .u64 on, .int .i64 ot, .int .i64 os, .bool oa, .slice oA okk oc] from rfl]
            go_wp2_with fail
            refine HLA.out.mono ?_
            rintro e w5 ⟨rfl, hb5⟩
            have hL5 := HL4.out.below hb5
            have hX5 := HX.out.below hb5 (by simp)
            have hB5 := HB4.out.trans (hb5.mono (by have := HB4.out.size; have := HSP.out; omega))
            have hlen := slen_any hL5
            rw [show ((rest.length : Nat) : Int) = (i : Int) - 1 - (q : Int) by have := HRL.out; have := HQ.out; omega] at hlen
            have HLEN := Lib.hid hlen
            have hfl := sflight_any hL5 (by have := HRL.out; have := HQ.out; omega) HRB.out
            rw [HSUM.out, show (10 : Int) * ((b + c : Nat) : Int) = 10 * ((i : Int) - 1 - (q : Int)) by have := HQ.out; omega] at hfl
            have HFL := Lib.hid hfl
            have HX5 := Lib.hid hX5
            have HB5 := Lib.hid hB5
            clear hL5 hX5 hB5 hb5 hlen hfl HLA
            rcases HEND.out with ⟨rfl, hb0, hc0, hlt2⟩ | ⟨rfl, hbc, t, hlt2, hon, htt⟩
            · rw [hlt2]
              have hp0 : ¬ (0 : Int) < (i : Int) - 1 - (q : Int) := by have := HQ.out; omega
              have HEQ := Lib.hid (And.intro hb0 hc0)
              clear hlt2 hb0 hc0
              go_wp2_with fail
              refine HLEN.out.mono ?_
              rintro e w6 ⟨rfl, rfl⟩
              go_wp2_with fail
              refine HFL.out.mono ?_
              rintro e w7 ⟨rfl, hb7⟩
              have HB7 := Lib.hid (HB5.out.trans (hb7.mono (by have := HB5.out.size; have := HSP.out; omega)))
              clear hb7
              go_wp2_with fail
              refine (known11_any _).mono ?_
              rintro e w8 ⟨rfl, hb8⟩
              have HB8 := Lib.hid (HB7.out.trans (hb8.mono (by have := HB7.out.size; have := HSP.out; omega)))
              clear hb8
              go_wp2
              go_ret
              exact ⟨rfl, by rw [HSP.out]; exact HB8.out⟩
            · rw [hlt2]
              have hp0 : (0 : Int) < (i : Int) - 1 - (q : Int) := by have := HQ.out; omega
              have HTT := Lib.hid htt
              have HBC := Lib.hid hbc
              clear hlt2 htt hbc
              rcases hon with rfl | ⟨hb0, rfl⟩
              · rcases HTT.out with h9 | ⟨hc0, hb0, h9⟩
                · obtain rfl : t = (i : Int) - 1 := by have := HQ.out; omega
                  clear h9
                  go_wp2_with fail
                  refine HLEN.out.mono ?_
                  rintro e w6 ⟨rfl, rfl⟩
                  go_wp2_with fail
                  refine HFL.out.mono ?_
                  rintro e w7 ⟨rfl, hb7⟩
                  have x0 := (HX5.out.below hb7 HX5.out.lt).cell 0
                  have HB7 := Lib.hid (HB5.out.trans (hb7.mono (by have := HB5.out.size; have := HSP.out; omega)))
                  clear hb7
                  go_wp2_with fail
                  refine (known11_any _).mono ?_
                  rintro e w8 ⟨rfl, hb8⟩
                  have HB8 := Lib.hid (HB7.out.trans (hb8.mono (by have := HB7.out.size; have := HSP.out; omega)))
                  clear hb8
                  go_wp2
                  go_ret
                  exact ⟨rfl, by rw [HSP.out]; exact HB8.out⟩
                · obtain rfl : t = (i : Int) - 2 := by have := HQ.out; omega
                  have hji : (j : Int) = (i : Int) - 1 := by have := HQ.out; omega
                  have hw2 : IntKind.i64.wrap ((i : Int) - 2) = (i : Int) - 2 := by rw [IntKind.wrap_i64]; omega
                  clear h9
                  clear hc0
                  go_wp2_with fail
                  refine HLEN.out.mono ?_
                  rintro e w6 ⟨rfl, rfl⟩
                  go_wp2_with fail
                  refine HFL.out.mono ?_
                  rintro e w7 ⟨rfl, hb7⟩
                  have x0 := (HX5.out.below hb7 HX5.out.lt).cell 0
                  have HB7 := Lib.hid (HB5.out.trans (hb7.mono (by have := HB5.out.size; have := HSP.out; omega)))
                  clear hb7
                  go_wp2_with fail
                  refine (known11_any _).mono ?_
                  rintro e w8 ⟨rfl, hb8⟩
                  have HB8 := Lib.hid (HB7.out.trans (hb8.mono (by have := HB7.out.size; have := HSP.out; omega)))
                  clear hb8
                  go_wp2
                  go_ret
                  exact ⟨rfl, by rw [HSP.out]; exact HB8.out⟩
              · rcases HTT.out with h9 | ⟨hc0, hb1, h9⟩
                · obtain rfl : t = (i : Int) - 1 := by have := HQ.out; omega
                  have hja : (j : Int) = (q : Int) := by have := HQ.out; omega
                  clear h9
                  clear hb0
                  go_wp2_with fail
                  refine HLEN.out.mono ?_
                  rintro e w6 ⟨rfl, rfl⟩
                  go_wp2_with fail
                  refine HFL.out.mono ?_
                  rintro e w7 ⟨rfl, hb7⟩
                  have x0 := (HX5.out.below hb7 HX5.out.lt).cell 0
                  have HB7 := Lib.hid (HB5.out.trans (hb7.mono (by have := HB5.out.size; have := HSP.out; omega)))
                  clear hb7
                  go_wp2_with fail
                  refine (known11_any _).mono ?_
                  rintro e w8 ⟨rfl, hb8⟩
                  have HB8 := Lib.hid (HB7.out.trans (hb8.mono (by have := HB7.out.size; have := HSP.out; omega)))
                  clear hb8
                  go_wp2
                  go_ret
                  exact ⟨rfl, by rw [HSP.out]; exact HB8.out⟩
                · exfalso; omega
theorem three11_law (n at_ : Int) (w : World) (w0 : (Lit.int .i64 n).wf = true) (w1 : (Lit.int .i64 at_).wf = true) :
    Calls Try.prog 6 #[.int .i64 n, .int .i64 at_] w fun e w' => e = .returned (.bool true) ∧ Below w.heap.size w w' := by
  obtain ⟨h0, h1⟩ := bounds_i64 w0
  obtain ⟨g0, g1⟩ := bounds_i64 w1
  exact three_law n at_ w (by omega) (by omega)
end Go.Proofs.Ytmdkfaklalfmdaa
