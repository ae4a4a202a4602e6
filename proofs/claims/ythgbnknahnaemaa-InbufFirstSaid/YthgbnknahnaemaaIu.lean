/-
  InbufFirst: its walk.
-/
import Derived.Test.YthgbnknahnaemaaIr
import Derived.Test.YthgbnknahnaemaaIs
import Derived.Test.YthgbnknahnaemaaInRow
namespace Go.Proofs.Ythgbnknahnaemaa
set_option linter.unusedVariables false
set_option linter.unusedSimpArgs false
open Go.RowKit
def fs1 (la : List Int) : BS := ⟨0, la.length, 0, false, addG (fun _ => none) 0 la⟩
def fs2 (la lb : List Int) (k : Nat) : BS := ⟨0, max la.length (k + lb.length), 0, false, addG (addG (fun _ => none) 0 la) k lb⟩
theorem fs1_e {la : List Int} {n : Nat} (hl : la.length = n) (h : n ≤ 60) : addE bs0 0 n false = 0 := by
  unfold addE
  rw [if_neg (by omega), if_neg (by simp [bs0]), if_neg (by show ¬ 0 + 2048 < 0 + n; omega)]
theorem fs1_r {la : List Int} (h : la.length ≤ 60) : addR bs0 0 la false = fs1 la := by
  unfold addR
  rw [if_pos (fs1_e rfl h)]
  unfold addS fs1 bs0
  simp
theorem fs2_e {la lb : List Int} {k n : Nat} (hl : lb.length = n) (h : la.length ≤ 60) (h2 : n ≤ 60) (hk : k ≤ 60) : addE (fs1 la) k n false = 0 := by
  unfold addE
  rw [if_neg (by omega), if_neg (by simp [fs1]), if_neg (by show ¬ 0 + 2048 < k + n; omega)]
theorem fs2_r {la lb : List Int} {k : Nat} (h : la.length ≤ 60) (h2 : lb.length ≤ 60) (hk : k ≤ 60) : addR (fs1 la) k lb false = fs2 la lb k := by
  unfold addR
  rw [if_pos (fs2_e rfl h h2 hk)]
  unfold addS fs1 fs2
  simp
theorem fs3_e {la lb : List Int} {k T : Nat} (h : la.length ≤ 60) (h2 : lb.length ≤ 60) (hk : k ≤ 60) (hT : 2049 ≤ T) (hT2 : T ≤ 4000) : addE (fs2 la lb k) T 1 true = 23 := by
  have e : (fs2 la lb k).hi = max la.length (k + lb.length) := rfl
  have e1 : (fs2 la lb k).en = false := rfl
  have e2 : (fs2 la lb k).rd = 0 := rfl
  unfold addE
  rw [if_neg (by omega), if_neg (by rw [e1, e]; simp; omega), if_pos (by rw [e2]; omega)]
theorem fs4_e {la lb : List Int} {k : Nat} (h : 0 < max la.length (k + lb.length)) : addE (fs2 la lb k) 0 0 true = 30 := by
  have e : (fs2 la lb k).hi = max la.length (k + lb.length) := rfl
  unfold addE
  rw [if_neg (by omega), if_pos (by rw [e]; simp; omega)]
theorem fs_stay {S : BS} {off : Nat} {bs : List Int} {fin : Bool} {e : Int} (h : addE S off bs.length fin = e) (h0 : e ≠ 0) : addR S off bs fin = S := by
  unfold addR
  rw [if_neg (by rw [h]; exact h0)]
theorem fs_get {la lb : List Int} {k i : Nat} (hk : k ≤ la.length) : (fs2 la lb k).g i = (la ++ lb.drop (la.length - k))[i]? := by
  show addG (addG (fun _ => none) 0 la) k lb i = _
  have e0 : ∀ n, addG (fun _ => none) 0 la n = la[n]? := fun n => by
    rw [addG_none rfl]
    unfold pieceB
    rw [if_pos (by omega)]
    rfl
  by_cases hi : i < la.length
  · rw [addG_some (by rw [e0, List.getElem?_eq_getElem hi]; rfl), e0, List.getElem?_append_left hi]
  · rw [addG_none (by rw [e0, List.getElem?_eq_none (by omega)])]
    rw [List.getElem?_append_right (by omega), List.getElem?_drop]
    unfold pieceB
    rw [if_pos (by omega)]
    congr 1
    omega
theorem fs_len {la lb : List Int} {k : Nat} (hk : k ≤ la.length) : (la ++ lb.drop (la.length - k)).length = max la.length (k + lb.length) := by
  rw [List.length_append, List.length_drop]
  omega
theorem fs_isr {la lb : List Int} {k : Nat} (hk : k ≤ la.length) : IsR (fs2 la lb k).g (fs2 la lb k).rd (max la.length (k + lb.length)) := by
  have hl := fs_len (lb := lb) hk
  refine ⟨fun i hi => ?_, ?_⟩
  · show ((fs2 la lb k).g (0 + i)).isSome = true
    rw [fs_get hk, Nat.zero_add, List.getElem?_eq_getElem (by omega)]
    rfl
  · show (fs2 la lb k).g (0 + _) = none
    rw [fs_get hk, Nat.zero_add, List.getElem?_eq_none (by omega)]
theorem fs_out {la lb : List Int} {k : Nat} (hk : k ≤ la.length) : outB (fs2 la lb k).g (fs2 la lb k).rd (max la.length (k + lb.length)) = la ++ lb.drop (la.length - k) := by
  have hl := fs_len (lb := lb) hk
  apply List.ext_getElem?
  intro i
  by_cases hi : i < max la.length (k + lb.length)
  · unfold outB
    rw [List.getElem?_map, List.getElem?_range hi]
    show some (((fs2 la lb k).g (0 + i)).getD 0) = _
    rw [fs_get hk, Nat.zero_add, List.getElem?_eq_getElem (by omega)]
    rfl
  · rw [List.getElem?_eq_none (by rw [outB_len]; omega), List.getElem?_eq_none (by omega)]
set_option maxHeartbeats 16000000 in
set_option maxRecDepth 100000 in
theorem ifirst_law (A0 : Option Addr) (n0 c0 : Nat) (bs0_ : List Int) (A1 : Option Addr) (n1 c1 : Nat) (bs1_ : List Int) (off far : Int) (w : World) (hu0 : InRow w A0 n0 c0 bs0_) (hu1 : InRow w A1 n1 c1 bs1_) (hoff : (Lit.int .i64 off).wf = true) (hfar : (Lit.int .u64 far).wf = true) :
    Calls Try.prog 6 #[.slice A0 n0 c0, .slice A1 n1 c1, .int .i64 off, .int .u64 far] w fun e w' => e = .returned (.bool true) ∧ Below w.heap.size w w' := by
  obtain ⟨hr0, hnc0, hcm0, hA0⟩ := hu0
  obtain ⟨hr1, hnc1, hcm1, hA1⟩ := hu1
  have hob := bounds_i64 hoff
  have hfb := bounds_u64 hfar
  have HCA := Lib.hid (fun W => (show Calls Try.prog 12 #[.slice A0 n0 c0, .int .i64 60] W _ from icut_any A0 n0 c0 60 W hnc0 hcm0 (by omega) hA0))
  have HCB := Lib.hid (fun W => (show Calls Try.prog 12 #[.slice A1 n1 c1, .int .i64 60] W _ from icut_any A1 n1 c1 60 W hnc1 hcm1 (by omega) hA1))
  obtain ⟨na, hna⟩ : ∃ x, min n0 60 = x := ⟨_, rfl⟩
  obtain ⟨nb, hnb⟩ : ∃ x, min n1 60 = x := ⟨_, rfl⟩
  rw [hna] at HCA
  rw [hnb] at HCB
  have hna1 : na ≤ n0 := by omega
  have hnb1 : nb ≤ n1 := by omega
  have hna60 : na ≤ 60 := by omega
  have hnb60 : nb ≤ 60 := by omega
  have hra := hr0.cutTo hna1
  have hrb := hr1.cutTo hnb1
  obtain ⟨la, hla⟩ : ∃ x, bs0_.take na = x := ⟨_, rfl⟩
  obtain ⟨lb, hlb⟩ : ∃ x, bs1_.take nb = x := ⟨_, rfl⟩
  rw [hla] at hra
  rw [hlb] at hrb
  have hlla : la.length = na := hra.1
  have hllb : lb.length = nb := hrb.1
  obtain ⟨k, hk⟩ : ∃ x, withN off na = x := ⟨_, rfl⟩
  have hkna : k ≤ na := by rw [← hk]; exact withN_le off na
  have HWI := Lib.hid (fun W => iwithin_any off na W ⟨hob.1, by have := hob.2; show off < _; omega⟩ (by omega))
  rw [hk] at HWI
  obtain ⟨fr, hfr⟩ : ∃ fr : Nat, far.tmod 1000 = (fr : Int) := ⟨(far.tmod 1000).toNat, by have := Int.tmod_nonneg (a := far) 1000 hfb.1; omega⟩
  have hfr2 : fr < 1000 := by have := Int.tmod_lt_of_pos far (b := 1000) (by omega); omega
  obtain ⟨T, hT⟩ : ∃ T, T = 2049 + fr := ⟨_, rfl⟩
  have hTz : (2049 : Int) + (fr : Int) = (T : Int) := by omega
  have hT1 : 2049 ≤ T := by omega
  have hT2 : T ≤ 4000 := by omega
  obtain ⟨kb, hkb⟩ : ∃ kb, kb = k + nb := ⟨_, rfl⟩
  have hkbz : (k : Int) + (nb : Int) = (kb : Int) := by omega
  have hkb2 : kb ≤ 120 := by omega
  have hnc0' : na ≤ c0 := by omega
  have hnc1' : nb ≤ c1 := by omega
  have HRA := Lib.hid hra
  have HRB := Lib.hid hrb
  have HLA := Lib.hid hlla
  have HLB := Lib.hid hllb
  have HKB := Lib.hid hkb
  have HN := Lib.hid (ob_new w)
  have HA1 : Hid (∀ W p, Ob w W p bs0 (fun _ => False) → Calls Try.prog 9 #[.pointer (some ⟨p, 0, none⟩), .int .u64 0, .slice A0 na c0, .bool false] W (OPost w W p (fs1 la) (fun _ => False) (.int .i64 0))) := Lib.hid (fun W p h => by
    have := ob_add_in h 0 A0 na c0 la false HRA.out (by omega) (by omega) (by omega)
    rw [fs1_e hlla (by omega), fs1_r (by omega)] at this
    exact this)
  have HA2 : Hid (∀ W p, Ob w W p (fs1 la) (fun _ => False) → Calls Try.prog 9 #[.pointer (some ⟨p, 0, none⟩), .int .u64 k, .slice A1 nb c1, .bool false] W (OPost w W p (fs2 la lb k) (fun _ => False) (.int .i64 0))) := Lib.hid (fun W p h => by
    have := ob_add_in h k A1 nb c1 lb false HRB.out (by omega) (by omega) (by omega)
    rw [fs2_e hllb (by omega) (by omega) (by omega), fs2_r (by omega) (by omega) (by omega)] at this
    exact this)
  have HA3 : Hid (∀ W p, Ob w W p (fs2 la lb k) (fun _ => False) → Calls Try.prog 9 #[.pointer (some ⟨p, 0, none⟩), .int .u64 T, .slice (some ⟨W.heap.size, 0, none⟩) 1 1, .bool true] (W.alloc (.cells #[.int .u8 1] 5)) (OPost w (W.alloc (.cells #[.int .u8 1] 5)) p (fs2 la lb k) (fun _ => False) (.int .i64 23))) := Lib.hid (fun W p h => by
    have e := fs3_e (la := la) (lb := lb) (k := k) (T := T) (by omega) (by omega) (by omega) hT1 hT2
    have := ob_add_lit h T [1] #[.int .u8 1] (0, 0) 1 true (Byt.one (by omega)) rfl rfl (by omega) (by omega)
    rw [fs_stay (S := fs2 la lb k) (off := T) (bs := [1]) (fin := true) e (by decide), e] at this
    exact this)
  have HA4 : Hid (0 < max na kb → ∀ W p, Ob w W p (fs2 la lb k) (fun _ => False) → Calls Try.prog 9 #[.pointer (some ⟨p, 0, none⟩), .int .u64 0, .slice none 0 0, .bool true] W (OPost w W p (fs2 la lb k) (fun _ => False) (.int .i64 30))) := Lib.hid (fun h0 W p h => by
    have e := fs4_e (la := la) (lb := lb) (k := k) (by rw [hlla, hllb, ← hkb]; exact h0)
    have := ob_add_nil h 0 true (by omega)
    rw [fs_stay (S := fs2 la lb k) (off := 0) (bs := []) (fin := true) e (by decide), e] at this
    exact this)
  have hMX : max la.length (k + lb.length) = max na kb := by rw [hlla, hllb, hkb]
  have HISR : Hid (IsR (fs2 la lb k).g (fs2 la lb k).rd (max na kb)) := Lib.hid (by rw [← hMX]; exact fs_isr (by omega))
  have HHI : Hid (∀ W p, Ob w W p (fs2 la lb k) (fun _ => False) → Calls Try.prog 16 #[.pointer (some ⟨p, 0, none⟩)] W fun e w' => e = .returned (.int .u64 (max na kb : Nat)) ∧ w' = W) := Lib.hid (fun W p h => by
    have := ob_high h
    rw [show (fs2 la lb k).hi = max na kb from hMX] at this
    exact this)
  have HRE : Hid (∀ W p, Ob w W p (fs2 la lb k) (fun _ => False) → Calls Try.prog 10 #[.pointer (some ⟨p, 0, none⟩)] W fun e w' => e = .returned (.int .i64 (max na kb : Nat)) ∧ Ob w w' p (fs2 la lb k) (fun _ => False)) := Lib.hid (fun W p h => (ob_ready h _ HISR.out).mono fun e w' ⟨h1, h2, _⟩ => ⟨h1, h2⟩)
  have HFI : Hid (∀ W p, Ob w W p (fs2 la lb k) (fun _ => False) → Calls Try.prog 17 #[.pointer (some ⟨p, 0, none⟩)] W fun e w' => e = .returned (.tuple #[.int .u64 0, .bool false]) ∧ Ob w w' p (fs2 la lb k) (fun _ => False)) := Lib.hid (fun W p h => (ob_fin h).mono fun e w' ⟨h1, h2, _⟩ => ⟨h1, h2⟩)
  obtain ⟨out, hout⟩ : ∃ x, la ++ lb.drop (na - k) = x := ⟨_, rfl⟩
  have HOUT := Lib.hid hout
  have hol : out.length = max na kb := by rw [← hout, ← hlla, fs_len (by omega), hMX, hlla]
  have HOL := Lib.hid hol
  have HTK : Hid (∀ W p, Ob w W p (fs2 la lb k) (fun _ => False) → Calls Try.prog 13 #[.pointer (some ⟨p, 0, none⟩), .int .i64 1000] W fun e w' => ∃ v, e = .returned (.tuple #[v, .bool false]) ∧ Own w' W.heap.size 5 v out ∧ Below w.heap.size w w' ∧ w.heap.size ≤ W.heap.size) := Lib.hid (fun W p h => by
    refine (ob_take h 1000 (by omega) _ HISR.out).mono fun e w' ⟨v, he, ho, hb, _⟩ => ⟨v, he, ?_, hb.bl, h.bl.size⟩
    have e1 : min (1000 : Int).toNat (max na kb) = max na kb := by show min 1000 _ = _; omega
    rw [e1] at ho
    have e2 := fs_out (la := la) (lb := lb) (k := k) (by omega)
    rw [hMX] at e2
    rw [e2, hlla, hout] at ho
    exact ho)
  have HKN := Lib.hid known14_any
  have hbb := bb_refl (strOfNums out)
  have HOA : Hid (∀ W, Below w.heap.size w W → Ow (W.alloc (.cells #[] 5)) W.heap.size 5 (.slice (some ⟨W.heap.size, 0, none⟩) 0 0) [] ∧ (0 < na → ∃ ad, A0 = some ad ∧ ∀ j u, (la.map (Value.int .u8))[j]? = some u → (W.alloc (.cells #[] 5)).cell? (ad.add j) = some u) ∧ W.heap.size ≤ (W.alloc (.cells #[] 5)).heap.size ∧ Below W.heap.size W (W.alloc (.cells #[] 5))) := Lib.hid (fun W hW => by
    have k1 : Below W.heap.size W (W.alloc (.cells #[] 5)) := (Below.refl _ _).alloc (Nat.le_refl _) _
    exact ⟨⟨rfl, .inr ⟨_, 0, _, rfl, Nat.le_refl _, heap_alloc_new W _, Nat.le_refl _, by unfold maxLen; omega, rfl, rfl⟩⟩, rd_src (HRA.out.below (hW.trans (k1.mono hW.size))), k1.size, k1⟩)
  have HLAM : Hid ((la.map (Value.int .u8)).length = na) := Lib.hid (by rw [List.length_map]; exact hlla)
  have HONE := Lib.hid (oneCell_u8 la)
  have hc0m : c0 ≤ 9223372036854775807 := by unfold maxLen at hcm0; omega
  have hc1m : c1 ≤ 9223372036854775807 := by unfold maxLen at hcm1; omega
  have HBA := Lib.hid hra.2.1
  have HBB := Lib.hid hrb.2.1
  have HWK := Lib.hid (show IntKind.u64.wrap (k : Int) = (k : Int) by rw [IntKind.wrap_u64]; omega)
  have hwk := HWK.out
  clear hr0 hr1 hra hrb hoff hfar hob hfb hcm0 hcm1 hA0 hA1 hla hlb hlla hllb hk hna hnb hMX hout hol hT hkb
  have hcase : na < kb ∨ (¬ na < kb ∧ 0 < na) ∨ (¬ na < kb ∧ na = 0) := by omega
  rcases hcase with hc | ⟨hc, hc2⟩ | ⟨hc, hc2⟩
  · have hmx : max na kb = kb := by omega
    rw [hmx] at HHI HRE HA4 HOL
    have hwH : IntKind.u64.wrap (kb : Int) = (kb : Int) := by rw [IntKind.wrap_u64]; omega
    have hz : (na : Int) < (kb : Int) := by omega
    have hz0 : (0 : Int) < (kb : Int) := by omega
    have h0 : 0 < kb := by omega
    obtain ⟨j, hj⟩ : ∃ j, j = na - k := ⟨_, rfl⟩
    have hjz : (na : Int) - (k : Int) = (j : Int) := by omega
    have hjnb : j < nb := by have := HKB.out; omega
    have hjz2 : (j : Int) ≤ (nb : Int) := by omega
    have hjc : ¬ c1 = j := by omega
    obtain ⟨b1, o1, rfl, hb1l, _⟩ := HRB.out.2.2 (by omega)
    have HRC : Hid (∀ W, Below w.heap.size w W → Rd W W.heap.size (some ⟨b1, o1 + j, none⟩) (nb - j) (lb.drop j)) := Lib.hid (fun W hW => by
      have h1 := (HRB.out.cutFrom (c := c1) (k := j) (by omega) (by omega))
      have e1 : cutA (some ⟨b1, o1, none⟩) c1 j = some ⟨b1, o1 + j, none⟩ := by
        unfold cutA
        rw [if_neg (by omega), Option.map_some, addr_add]
      rw [e1] at h1
      exact (h1.below hW).more hW.size)
    have HW2 : Hid (la ++ lb.drop j = out) := Lib.hid (by rw [hj]; exact HOUT.out)
    have HJ := Lib.hid hj
    clear hj hb1l
    clear hmx
    go_enter Try.func6, Try.ntmps6
    go_wp2_with (first
      | (go_at_call 7; (with_reducible refine HN.out.mono ?_); rintro e w1 ⟨p, rfl, hO1⟩; have K1 := Lib.hid hO1; clear hO1)
      | (go_at_call 12; (with_reducible refine (HCA.out _).mono ?_); rintro e wz ⟨rfl, hwz⟩; (try rw [hwz]); clear hwz)
      | (go_at_call 12; (with_reducible refine (HCB.out _).mono ?_); rintro e wz ⟨rfl, hwz⟩; (try rw [hwz]); clear hwz)
      | (go_at_call 14; (with_reducible refine (HWI.out _).mono ?_); rintro e wz ⟨rfl, hwz⟩; (try rw [hwz]); clear hwz)
      | (go_at_call 9; (with_reducible refine (HA1.out w1 p K1.out).mono ?_); rintro e w2 ⟨rfl, hO2, _⟩; have K2 := Lib.hid hO2; clear hO2)
      | (go_at_call 9; (with_reducible refine (HA2.out w2 p K2.out).mono ?_); rintro e w3 ⟨rfl, hO3, _⟩; have K3 := Lib.hid hO3; clear hO3)
      | (go_at_call 10; (with_reducible refine (HRE.out w3 p K3.out).mono ?_); rintro e w4 ⟨rfl, hO4⟩; have K4 := Lib.hid hO4; clear hO4)
      | (go_at_call 9; (with_reducible refine (HA3.out w4 p K4.out).mono ?_); rintro e w5 ⟨rfl, hO5, _⟩; have K5 := Lib.hid hO5; clear hO5)
      | (go_at_call 9; (with_reducible refine (HA4.out h0 w5 p K5.out).mono ?_); rintro e w6 ⟨rfl, hO6, _⟩; have K6 := Lib.hid hO6; clear hO6)
      | (go_at_call 16; (with_reducible refine (HHI.out w3 p K3.out).mono ?_); rintro e wz ⟨rfl, hwz⟩; (try rw [hwz]); clear hwz)
      | (go_at_call 16; (with_reducible refine (HHI.out w6 p K6.out).mono ?_); rintro e wz ⟨rfl, hwz⟩; (try rw [hwz]); clear hwz)
      | (go_at_call 17; (with_reducible refine (HFI.out w6 p K6.out).mono ?_); rintro e w7 ⟨rfl, hO7⟩; have K7 := Lib.hid hO7; clear hO7)
      | (go_at_call 13; (with_reducible refine (HTK.out w7 p K7.out).mono ?_); rintro e w8 ⟨v, rfl, hv8, hb8, hs8⟩; obtain ⟨A8, c8, rfl, _, _, _⟩ := hv8.open_n _ HOL.out; obtain ⟨q1, q2, q3, q4⟩ := HOA.out w8 hb8; have HV8 := Lib.hid hv8; have HB8 := Lib.hid hb8; have HS8 := Lib.hid hs8; have Q4 := Lib.hid q4; clear hv8 hb8 hs8 q4)
      | (at_builtin; refine wpList_app1 o8 rfl (.tmp 94) (.tmp 95) rfl w8.heap.size _ [] rfl q1 A0 na c0 rfl (la.map (Value.int .u8)) HLAM.out q2 HONE.out (by simp; try omega) q3 ?_; intro v9 w9 hv9 hg9 _ _; have hb9 := Q4.out.grown hg9 q3 (fun k hk => (ow_lt q1 k hk).1); rw [List.nil_append] at hv9; have HV9 := Lib.hid hv9; have HB9 := Lib.hid hb9; clear q1 q2 q3 hg9 hv9 hb9; have HZ := Lib.hid (HB8.out.trans (HB9.out.mono HB8.out.size)); have hr10 := rd_src (HRC.out w9 HZ.out); have hs10 := HB9.out.size; have ho10 := HV9.out)
      | (at_builtin; refine wpList_app1 o8 rfl (.tmp 104) (.tmp 110) rfl w8.heap.size _ _ rfl ho10 (some ⟨b1, o1 + j, none⟩) (nb - j) (c1 - j) rfl ((lb.drop j).map (Value.int .u8)) (by rw [List.length_map, List.length_drop, HLB.out]) hr10 (oneCell_u8 _) (by rw [HLAM.out]; omega) hs10 ?_; intro v11 w11 hv11 hg11 _ _; have hb11 := HB9.out.grown hg11 hs10 (fun k hk => (ow_lt ho10 k hk).1); have hw := ow_own (T := 5) (bs := out) (by rw [← HW2.out, List.map_append]; exact hv11) (by rw [← HW2.out]; exact HBA.out.app (HBB.out.drop j)); have hgot := HV8.out.below hb11 (Nat.le_refl _); have HBX := Lib.hid (HB8.out.trans (hb11.mono HB8.out.size)); obtain ⟨Aw, cw, ew, _, _, hrw⟩ := hw.open_n _ HOL.out; obtain ⟨Ag, cg, eg, _, _, hrg⟩ := hgot.open_n _ HOL.out; injection eg with eg1 _ eg3; subst eg1; subst eg3; subst ew; have t1 := run_text (P := Try.prog) (c := c8) hrg 22 5 9 Try.underlying22 Try.underlying5 Try.underlying9; have t2 := run_text (P := Try.prog) (c := cw) hrw 22 5 9 Try.underlying22 Try.underlying5 Try.underlying9; clear hrg hrw; have HKX := Lib.hid (HKN.out w11); clear hv11 hg11 hb11 hw hgot ho10 hr10 hs10)
      | (go_at_call 11; (with_reducible refine HKX.out.mono ?_); rintro e w12 ⟨rfl, hb12⟩; have HBK := Lib.hid hb12; clear hb12))
    go_ret
    exact ⟨by first | rfl | simp, HBX.out.trans (HBK.out.mono HBX.out.size)⟩
  · have hmx : max na kb = na := by omega
    rw [hmx] at HHI HRE HA4 HOL
    have hwH : IntKind.u64.wrap (na : Int) = (na : Int) := by rw [IntKind.wrap_u64]; omega
    have hz : ¬ (na : Int) < (kb : Int) := by omega
    have HW2 : Hid (la = out) := Lib.hid (by rw [← HOUT.out, List.drop_eq_nil_of_le (by rw [HLB.out]; have := HKB.out; omega), List.append_nil])
    have hz0 : (0 : Int) < (na : Int) := by omega
    have h0 : 0 < na := hc2
    clear hmx
    go_enter Try.func6, Try.ntmps6
    go_wp2_with (first
      | (go_at_call 7; (with_reducible refine HN.out.mono ?_); rintro e w1 ⟨p, rfl, hO1⟩; have K1 := Lib.hid hO1; clear hO1)
      | (go_at_call 12; (with_reducible refine (HCA.out _).mono ?_); rintro e wz ⟨rfl, hwz⟩; (try rw [hwz]); clear hwz)
      | (go_at_call 12; (with_reducible refine (HCB.out _).mono ?_); rintro e wz ⟨rfl, hwz⟩; (try rw [hwz]); clear hwz)
      | (go_at_call 14; (with_reducible refine (HWI.out _).mono ?_); rintro e wz ⟨rfl, hwz⟩; (try rw [hwz]); clear hwz)
      | (go_at_call 9; (with_reducible refine (HA1.out w1 p K1.out).mono ?_); rintro e w2 ⟨rfl, hO2, _⟩; have K2 := Lib.hid hO2; clear hO2)
      | (go_at_call 9; (with_reducible refine (HA2.out w2 p K2.out).mono ?_); rintro e w3 ⟨rfl, hO3, _⟩; have K3 := Lib.hid hO3; clear hO3)
      | (go_at_call 10; (with_reducible refine (HRE.out w3 p K3.out).mono ?_); rintro e w4 ⟨rfl, hO4⟩; have K4 := Lib.hid hO4; clear hO4)
      | (go_at_call 9; (with_reducible refine (HA3.out w4 p K4.out).mono ?_); rintro e w5 ⟨rfl, hO5, _⟩; have K5 := Lib.hid hO5; clear hO5)
      | (go_at_call 9; (with_reducible refine (HA4.out h0 w5 p K5.out).mono ?_); rintro e w6 ⟨rfl, hO6, _⟩; have K6 := Lib.hid hO6; clear hO6)
      | (go_at_call 16; (with_reducible refine (HHI.out w3 p K3.out).mono ?_); rintro e wz ⟨rfl, hwz⟩; (try rw [hwz]); clear hwz)
      | (go_at_call 16; (with_reducible refine (HHI.out w6 p K6.out).mono ?_); rintro e wz ⟨rfl, hwz⟩; (try rw [hwz]); clear hwz)
      | (go_at_call 17; (with_reducible refine (HFI.out w6 p K6.out).mono ?_); rintro e w7 ⟨rfl, hO7⟩; have K7 := Lib.hid hO7; clear hO7)
      | (go_at_call 13; (with_reducible refine (HTK.out w7 p K7.out).mono ?_); rintro e w8 ⟨v, rfl, hv8, hb8, hs8⟩; obtain ⟨A8, c8, rfl, _, _, _⟩ := hv8.open_n _ HOL.out; obtain ⟨q1, q2, q3, q4⟩ := HOA.out w8 hb8; have HV8 := Lib.hid hv8; have HB8 := Lib.hid hb8; have HS8 := Lib.hid hs8; have Q4 := Lib.hid q4; clear hv8 hb8 hs8 q4)
      | (at_builtin; refine wpList_app1 o8 rfl (.tmp 94) (.tmp 95) rfl w8.heap.size _ [] rfl q1 A0 na c0 rfl (la.map (Value.int .u8)) HLAM.out q2 HONE.out (by simp; try omega) q3 ?_; intro v9 w9 hv9 hg9 _ _; have hb9 := Q4.out.grown hg9 q3 (fun k hk => (ow_lt q1 k hk).1); rw [List.nil_append] at hv9; have HV9 := Lib.hid hv9; have HB9 := Lib.hid hb9; clear q1 q2 q3 hg9 hv9 hb9; have hw := ow_own (T := 5) (bs := out) (by rw [← HW2.out]; exact HV9.out) (by rw [← HW2.out]; exact HBA.out); have hgot := HV8.out.below HB9.out (Nat.le_refl _); have HBX := Lib.hid (HB8.out.trans (HB9.out.mono HB8.out.size)); obtain ⟨Aw, cw, ew, _, _, hrw⟩ := hw.open_n _ HOL.out; obtain ⟨Ag, cg, eg, _, _, hrg⟩ := hgot.open_n _ HOL.out; injection eg with eg1 _ eg3; subst eg1; subst eg3; subst ew; have t1 := run_text (P := Try.prog) (c := c8) hrg 22 5 9 Try.underlying22 Try.underlying5 Try.underlying9; have t2 := run_text (P := Try.prog) (c := cw) hrw 22 5 9 Try.underlying22 Try.underlying5 Try.underlying9; clear hrg hrw; have HKX := Lib.hid (HKN.out w9); clear hw hgot)
      | (go_at_call 11; (with_reducible refine HKX.out.mono ?_); rintro e w12 ⟨rfl, hb12⟩; have HBK := Lib.hid hb12; clear hb12))
    go_ret
    exact ⟨by first | rfl | simp, HBX.out.trans (HBK.out.mono HBX.out.size)⟩
  · have hmx : max na kb = na := by omega
    rw [hmx] at HHI HRE HA4 HOL
    have hwH : IntKind.u64.wrap (na : Int) = (na : Int) := by rw [IntKind.wrap_u64]; omega
    have hz : ¬ (na : Int) < (kb : Int) := by omega
    have HW2 : Hid (la = out) := Lib.hid (by rw [← HOUT.out, List.drop_eq_nil_of_le (by rw [HLB.out]; have := HKB.out; omega), List.append_nil])
    have hk00 : k = 0 := by omega
    have hnb0 : nb = 0 := by have := HKB.out; omega
    have hkb0 : kb = 0 := by omega
    subst hc2 hk00 hnb0 hkb0
    have e00 : ((0 : Nat) : Int) = 0 := rfl
    rw [e00] at HWI HA2 HHI HRE hwk hwH
    clear e00 hkbz hwk hwH hz hkna
    clear hmx
    go_enter Try.func6, Try.ntmps6
    go_wp2_with (first
      | (go_at_call 7; (with_reducible refine HN.out.mono ?_); rintro e w1 ⟨p, rfl, hO1⟩; have K1 := Lib.hid hO1; clear hO1)
      | (go_at_call 12; (with_reducible refine (HCA.out _).mono ?_); rintro e wz ⟨rfl, hwz⟩; (try rw [hwz]); clear hwz)
      | (go_at_call 12; (with_reducible refine (HCB.out _).mono ?_); rintro e wz ⟨rfl, hwz⟩; (try rw [hwz]); clear hwz)
      | (go_at_call 14; (with_reducible refine (HWI.out _).mono ?_); rintro e wz ⟨rfl, hwz⟩; (try rw [hwz]); clear hwz)
      | (go_at_call 9; (with_reducible refine (HA1.out w1 p K1.out).mono ?_); rintro e w2 ⟨rfl, hO2, _⟩; have K2 := Lib.hid hO2; clear hO2)
      | (go_at_call 9; (with_reducible refine (HA2.out w2 p K2.out).mono ?_); rintro e w3 ⟨rfl, hO3, _⟩; have K3 := Lib.hid hO3; clear hO3)
      | (go_at_call 10; (with_reducible refine (HRE.out w3 p K3.out).mono ?_); rintro e w4 ⟨rfl, hO4⟩; have K4 := Lib.hid hO4; clear hO4)
      | (go_at_call 9; (with_reducible refine (HA3.out w4 p K4.out).mono ?_); rintro e w5 ⟨rfl, hO5, _⟩; have K5 := Lib.hid hO5; clear hO5)
      | (go_at_call 16; (with_reducible refine (HHI.out w3 p K3.out).mono ?_); rintro e wz ⟨rfl, hwz⟩; (try rw [hwz]); clear hwz)
      | (go_at_call 16; (with_reducible refine (HHI.out w5 p K5.out).mono ?_); rintro e wz ⟨rfl, hwz⟩; (try rw [hwz]); clear hwz)
      | (go_at_call 17; (with_reducible refine (HFI.out w5 p K5.out).mono ?_); rintro e w7 ⟨rfl, hO7⟩; have K7 := Lib.hid hO7; clear hO7)
      | (go_at_call 13; (with_reducible refine (HTK.out w7 p K7.out).mono ?_); rintro e w8 ⟨v, rfl, hv8, hb8, hs8⟩; obtain ⟨A8, c8, rfl, _, _, _⟩ := hv8.open_n _ HOL.out; obtain ⟨q1, q2, q3, q4⟩ := HOA.out w8 hb8; have HV8 := Lib.hid hv8; have HB8 := Lib.hid hb8; have HS8 := Lib.hid hs8; have Q4 := Lib.hid q4; clear hv8 hb8 hs8 q4)
      | (at_builtin; refine wpList_app1 o8 rfl (.tmp 94) (.tmp 95) rfl w8.heap.size _ [] rfl q1 A0 0 c0 rfl (la.map (Value.int .u8)) HLAM.out (fun h => absurd h (Nat.lt_irrefl 0)) HONE.out (by simp; try omega) q3 ?_; intro v9 w9 hv9 hg9 _ _; have hb9 := Q4.out.grown hg9 q3 (fun k hk => (ow_lt q1 k hk).1); rw [List.nil_append] at hv9; have HV9 := Lib.hid hv9; have HB9 := Lib.hid hb9; clear q1 q3 hg9 hv9 hb9; have hw := ow_own (T := 5) (bs := out) (by rw [← HW2.out]; exact HV9.out) (by rw [← HW2.out]; exact HBA.out); have hgot := HV8.out.below HB9.out (Nat.le_refl _); have HBX := Lib.hid (HB8.out.trans (HB9.out.mono HB8.out.size)); obtain ⟨Aw, cw, ew, _, _, hrw⟩ := hw.open_n _ HOL.out; obtain ⟨Ag, cg, eg, _, _, hrg⟩ := hgot.open_n _ HOL.out; injection eg with eg1 _ eg3; subst eg1; subst eg3; subst ew; have t1 := run_text (P := Try.prog) (c := c8) hrg 22 5 9 Try.underlying22 Try.underlying5 Try.underlying9; have t2 := run_text (P := Try.prog) (c := cw) hrw 22 5 9 Try.underlying22 Try.underlying5 Try.underlying9; clear hrg hrw; have HKX := Lib.hid (HKN.out w9); clear hw hgot)
      | (go_at_call 11; (with_reducible refine HKX.out.mono ?_); rintro e w12 ⟨rfl, hb12⟩; have HBK := Lib.hid hb12; clear hb12))
    go_ret
    exact ⟨by first | rfl | simp, HBX.out.trans (HBK.out.mono HBX.out.size)⟩
end Go.Proofs.Ythgbnknahnaemaa
