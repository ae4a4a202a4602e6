/-
  Chapter 11's runs (the law's known).
-/
import Derived.Test.YtpihgikcgkipaaaUh
import Derived.Test.YtpihgikcgkipaaaUi
namespace Go.Proofs.Ytpihgikcgkipaaa
set_option linter.unusedVariables false
set_option linter.unusedSimpArgs false
open Go.RowKit
theorem filt_core (l : PL) (f : Int → Bool) : (l.filter (fun r => f r.n)).map PK.core = (l.map PK.core).filter (fun c => f c.n) := by
  rw [List.filter_map]
  rfl
theorem sumS_core (l : PL) : sumS l = ((l.map PK.core).map PC.s).foldl (· + ·) 0 := by
  unfold sumS
  rw [List.map_map]
  rfl
theorem len_core (l : PL) : l.length = (l.map PK.core).length := (List.length_map ..).symm
theorem mem_core {l : PL} {C : List PC} (h : l.map PK.core = C) {Q : PC → Prop} (hq : ∀ c ∈ C, Q c) : ∀ r ∈ l, Q r.core := fun r hr => hq _ (by rw [← h]; exact List.mem_map_of_mem hr)
theorem MayR.one (a b : Int) (h : a < b) : MayR [(a, b)] := ⟨by simp, fun i hi r hr => by
  obtain rfl : i = 0 := by simp at hi; omega
  simp at hr
  subst hr
  exact ⟨h, fun s h0 => absurd h0 (by omega)⟩⟩
theorem RnP.one (w : World) (g : Nat) (a b : Int) (hg : g = w.heap.size) (ha : 0 ≤ a ∧ a < 18446744073709551616) (hb : 0 ≤ b ∧ b < 18446744073709551616) :
    RnP (w.alloc (.cells #[.int .u64 a, .int .u64 b] 38)) (fun j => j = g) (some ⟨g, 0, none⟩) 1 [(a, b)] := by
  subst hg
  have hA := At.new w 38 [.int .u64 a, .int .u64 b]
  refine ⟨rfl, WdL.one ha.1 ha.2 hb.1 hb.2, fun _ => ⟨_, 0, rfl, hA.lt, rfl, fun i r hr => ?_⟩⟩
  obtain rfl : i = 0 := by
    have := (List.getElem?_eq_some_iff.1 hr).1
    simp at this
    omega
  simp at hr
  subst hr
  exact ⟨hA.cell 0, hA.cell 1⟩
section
variable {base p : Nat} {nx ak : Int} {hd : Bool} {v : Value} {l : PL} {w : World}
/-- Add of a packet that may be, where there is room. -/
theorem sadd_yes (hs : LV w base p nx ak hd v l) (r : PK) (hf : FrOk w base r) (hn : l.length ≤ 64) (h0 : 0 ≤ nx) (hb : addBad nx r = false) (hr : r.a = true → l.length < 64) :
    Calls Try.prog 10 #[.pointer (some ⟨p, 0, none⟩), .agg (pkC r).toArray] w (fun e w' => e = .returned (.int .i64 0) ∧ ∃ v' A c, LV w' base p (r.n + 1) ak hd v' (if r.a then l ++ [r.put A c] else l) ∧ Kept (fun j => j = p ∨ v.ownBlock = some j) w w' ∧ ∀ j, v'.ownBlock = some j → v.ownBlock = some j ∨ w.heap.size ≤ j) :=
  (sadd_any hs r hf hn h0).mono fun e w' h => by
    rcases h with h | h | h
    · rw [hb] at h; exact absurd h.1 (by decide)
    · have := hr h.2.1; omega
    · exact h.2.2
/-- Ack of ranges that may be, up to the next number. -/
theorem sack_yes (P : Nat → Prop) (A : Option Addr) (n c : Nat) (rs : RL) (z : Int × Int) (hs : LV w base p nx ak hd v l) (hr : RnP w P A n rs) (hP : ¬ P p) (hnc : n ≤ c) (hcm : c ≤ maxLen) (hn : n ≤ 400000) (hl : l.length ≤ 64) (hg : ∀ r ∈ l, 0 ≤ r.n ∧ r.n < 4611686018427387904 - 1) (h0 : 0 ≤ nx ∧ nx ≤ 4611686018427387904 - 1) (ha : 0 ≤ ak ∧ ak < 4611686018427387904)
    (hm : MayR rs) (hz : rs[rs.length - 1]? = some z) (hzn : z.2 ≤ nx) :
    Calls Try.prog 12 #[.pointer (some ⟨p, 0, none⟩), .slice A n c] w (fun e w' => ∃ vg vl vr, e = .returned (.tuple #[vg, vl, .int .i64 0]) ∧
      LV w' base p nx (max ak (z.2 - 1)) true vr ((l.filter (fun r => !hasL rs r.n)).filter (fun r => !decide (r.n + 3 ≤ max ak (z.2 - 1)))) ∧
      OwnP w' w.heap.size vg (l.filter (fun r => hasL rs r.n)) ∧
      OwnP w' w.heap.size vl ((l.filter (fun r => !hasL rs r.n)).filter (fun r => decide (r.n + 3 ≤ max ak (z.2 - 1)))) ∧ Kept (· = p) w w' ∧ ∀ j, vr.ownBlock = some j → w.heap.size ≤ j) :=
  (sack_any P A n c rs hs hr hP hnc hcm hn hl hg h0 ha).mono fun e w' h => by
    rcases h with h | ⟨_, z', hz', h⟩
    · exact absurd hm h.1
    · rw [hz] at hz'
      injection hz' with hz'
      subst hz'
      rcases h with h | h
      · omega
      · exact h.2
theorem sack_far (P : Nat → Prop) (A : Option Addr) (n c : Nat) (rs : RL) (z : Int × Int) (hs : LV w base p nx ak hd v l) (hr : RnP w P A n rs) (hP : ¬ P p) (hnc : n ≤ c) (hcm : c ≤ maxLen) (hn : n ≤ 400000) (hl : l.length ≤ 64) (hg : ∀ r ∈ l, 0 ≤ r.n ∧ r.n < 4611686018427387904 - 1) (h0 : 0 ≤ nx ∧ nx ≤ 4611686018427387904 - 1) (ha : 0 ≤ ak ∧ ak < 4611686018427387904)
    (hm : MayR rs) (hz : rs[rs.length - 1]? = some z) (hzn : nx < z.2) :
    Calls Try.prog 12 #[.pointer (some ⟨p, 0, none⟩), .slice A n c] w (fun e w' => e = .returned (.tuple #[.slice none 0 0, .slice none 0 0, .int .i64 14]) ∧ Below w.heap.size w w') :=
  (sack_any P A n c rs hs hr hP hnc hcm hn hl hg h0 ha).mono fun e w' h => by
    rcases h with h | ⟨_, z', hz', h⟩
    · exact absurd hm h.1
    · rw [hz] at hz'
      injection hz' with hz'
      subst hz'
      rcases h with h | h
      · exact h.2
      · omega
end
def kC (i : Nat) : List PC := (List.range i).map fun (j : Nat) => (⟨(j : Int), 0, 9, true, 0⟩ : PC)
theorem kC_succ (i : Nat) : kC (i + 1) = kC i ++ [⟨(i : Int), 0, 9, true, 0⟩] := by unfold kC; rw [List.range_succ, List.map_append]; rfl
/-- A ledger in the law's own call. -/
structure KS (w0 w : World) (sp : Nat) (nx : Int) (v : Value) (l : PL) (C : List PC) : Prop where
  lv : LV w sp sp nx 0 false v l
  core : l.map PK.core = C
  bl : Below sp w0 w
set_option maxRecDepth 100000 in
set_option maxHeartbeats 4000000 in
theorem known11_any (w : World) : Calls Try.prog 9 #[] w fun e w' => e = .returned (.bool true) ∧ Below w.heap.size w w' := by
  go_enter Try.func9, Try.ntmps9
  go_wp2_with fail
  refine (snew_any _).mono ?_
  rintro e w1 ⟨rfl, hl1, hb1⟩
  have HK : Hid (KS w w1 w.heap.size 0 (.slice none 0 0) [] (kC 0)) := Lib.hid ⟨hl1, rfl, hb1⟩
  obtain ⟨sp, hsp⟩ : ∃ x, w.heap.size = x := ⟨_, rfl⟩
  rw [hsp] at HK ⊢
  have HSP := Lib.hid hsp
  clear hl1 hb1 hsp
  go_wp2
  go_loopg [2] 5 (fun kx s2 wr => ∃ (i : Nat) (v : Value) (l : PL), s2 = .int .u64 i ∧ i ≤ 5 ∧ 5 - i ≤ kx ∧ Hid (KS w wr sp i v l (kC i)))
  case atStart => exact ⟨0, _, _, rfl, by omega, by omega, HK⟩
  case round =>
    clear HK
    obtain ⟨i, v, l, rfl, hi5, hkx, hk⟩ := hrel
    by_cases hlt : i < 5
    · have hll : l.length = i := by rw [len_core, hk.out.core]; simp [kC]
      have hA := sadd_yes hk.out.lv ⟨(i : Int), 0, 9, true, none, 0, 0⟩ (FrOk.nil_ _ _ _ _ _ _) (by omega) (by omega) (by unfold addBad; simp; omega) (by omega)
      have HA : Hid (Calls Try.prog 10 #[.pointer (some ⟨sp, 0, none⟩), .agg #[.int .u64 i, .int .i64 0, .int .i64 9, .bool true, .slice none 0 0]] wr _) := Lib.hid hA
      have hiz : (i : Int) < 5 := by omega
      clear hA
      go_wp2_with fail
      refine HA.out.mono ?_
      rintro e w2 ⟨rfl, v2, A2, c2, hl2, hk2, hv2⟩
      have hb2 : Below sp w w2 := hk2.below hk.out.bl (by have := hk.out.bl.size; have := HSP.out; omega) (fun j hj => by
        rcases hj with hj | hj
        · omega
        · exact (ownG_lt hk.out.lv.own j hj).1)
      have hc2 : (l ++ [PK.put ⟨(i : Int), 0, 9, true, none, 0, 0⟩ A2 c2]).map PK.core = kC (i + 1) := by rw [List.map_append, hk.out.core, kC_succ]; rfl
      have HK : Hid (KS w w2 sp ((i + 1 : Nat) : Int) v2 (l ++ [PK.put ⟨(i : Int), 0, 9, true, none, 0, 0⟩ A2 c2]) (kC (i + 1))) := Lib.hid ⟨hl2, hc2, hb2⟩
      clear hl2 hk2 hv2 hb2 hc2 HA hk
      go_wp2
      go_roundg (5 - (i + 1))
      case measure => omega
      case rel => exact ⟨i + 1, v2, _, by simp, by omega, by omega, HK⟩
    · obtain rfl : i = 5 := by omega
      have hll : l.length = 5 := by rw [len_core, hk.out.core]; rfl
      have hlv := hk.out.lv
      have hplt := hlv.at_.lt
      have hmem := mem_core hk.out.core (Q := fun c => 0 ≤ c.n ∧ c.n < 10) (by decide)
      have hax : Below wr.heap.size wr (wr.alloc (.cells #[.int .u64 4, .int .u64 5] 38)) := (Below.refl _ _).alloc (Nat.le_refl _) _
      have hA := sack_yes (· = wr.heap.size) (some ⟨wr.heap.size, 0, none⟩) 1 1 [(4, 5)] (4, 5) (hlv.below hax) (RnP.one wr _ 4 5 rfl (by omega) (by omega)) (by omega) (Nat.le_refl _) (by unfold maxLen; omega) (by omega) (by omega) (fun r hr => by have := hmem r hr; unfold PK.core at this; simp only at this; omega) (by omega) (by omega) (MayR.one 4 5 (by omega)) rfl (by show (5 : Int) ≤ _; omega)
      have HA := Lib.hid hA
      have HC := Lib.hid hk.out.core
      have HB := Lib.hid (hk.out.bl.trans (hax.mono (by have := hk.out.bl.size; have := HSP.out; omega)))
      have HSPB := Lib.hid hplt
      clear hA hlv hmem hax hk hll hplt hkx hi5 hlt
      go_wp2_with fail
      refine HA.out.mono ?_
      rintro e w2 ⟨vg, vl, vr, rfl, hl2, hg2, hlo2, hk2, _⟩
      rw [show max (0 : Int) (((4 : Int), (5 : Int)).2 - 1) = 4 by decide] at hl2 hlo2
      have cg : (l.filter (fun r => hasL [(4, 5)] r.n)).length = 1 := by rw [len_core, filt_core l (fun n => hasL [(4, 5)] n), HC.out]; decide
      have cr : ((l.filter (fun r => !hasL [(4, 5)] r.n)).filter (fun r => !decide (r.n + 3 ≤ 4))).map PK.core = [⟨2, 0, 9, true, 0⟩, ⟨3, 0, 9, true, 0⟩] := by
        rw [filt_core _ (fun n => !decide (n + 3 ≤ 4)), filt_core l (fun n => !hasL [(4, 5)] n), HC.out]; decide
      have cl : ((l.filter (fun r => !hasL [(4, 5)] r.n)).filter (fun r => decide (r.n + 3 ≤ 4))).length = 2 := by
        rw [len_core, filt_core _ (fun n => decide (n + 3 ≤ 4)), filt_core l (fun n => !hasL [(4, 5)] n), HC.out]; decide
      obtain ⟨Ag, cg', rfl, _, _⟩ := ownG_shape hg2
      obtain ⟨Al, cl', rfl, _, _⟩ := ownG_shape hlo2
      rw [cg, cl]
      obtain ⟨rest, hrest⟩ : ∃ x, (l.filter (fun r => !hasL [(4, 5)] r.n)).filter (fun r => !decide (r.n + 3 ≤ 4)) = x := ⟨_, rfl⟩
      rw [hrest] at hl2 cr
      have hB2 : Below sp w w2 := hk2.below HB.out (by have := HB.out.size; have := HSP.out; omega) (fun j hj => by omega)
      have hrl : rest.length = 2 := by rw [len_core, cr]; rfl
      have hmem := mem_core cr (Q := fun c => 0 ≤ c.n ∧ c.n < 10 ∧ 0 ≤ c.s ∧ c.s ≤ 512) (by decide)
      have hsum : sumS rest = 18 := by rw [sumS_core, cr]; rfl
      have hplt := hl2.at_.lt
      have hax : Below w2.heap.size w2 (w2.alloc (.cells #[.int .u64 5, .int .u64 6] 38)) := (Below.refl _ _).alloc (Nat.le_refl _) _
      have hA := sack_far (· = w2.heap.size) (some ⟨w2.heap.size, 0, none⟩) 1 1 [(5, 6)] (5, 6) (hl2.below hax) (RnP.one w2 _ 5 6 rfl (by omega) (by omega)) (by omega) (Nat.le_refl _) (by unfold maxLen; omega) (by omega) (by omega) (fun r hr => by have := hmem r hr; unfold PK.core at this; simp only at this; omega) (by omega) (by omega) (MayR.one 5 6 (by omega)) rfl (by show _ < (6 : Int); omega)
      have HA2 := Lib.hid hA
      have HE := Lib.hid (And.intro (hl2.below hax) (And.intro (hB2.trans (hax.mono (by have := hB2.size; have := HSP.out; omega))) (And.intro hrl (And.intro (fun r hr => (hmem r hr).2.2) hsum))))
      clear hA hl2 hax hB2 hrl hmem hsum cr cg cl hg2 hlo2 hk2 hrest hplt HA
      go_wp2_with fail
      refine HA2.out.mono ?_
      rintro e w3 ⟨rfl, hb3⟩
      have hl3 := HE.out.1.below hb3
      have hB3 := HE.out.2.1.trans (hb3.mono (by have := HE.out.2.1.size; have := HSP.out; omega))
      have HF := Lib.hid (sflight_any hl3 (by have := HE.out.2.2.1; omega) HE.out.2.2.2.1)
      have HL3 := Lib.hid hl3
      have HB3 := Lib.hid hB3
      have HSUM := Lib.hid HE.out.2.2.2.2
      clear hl3 hB3 hb3 HA2
      rw [HSUM.out] at HF
      go_wp2_with fail
      refine HF.out.mono ?_
      rintro e w4 ⟨rfl, hb4⟩
      have HN := Lib.hid (snext_any (HL3.out.below hb4))
      have HB4 := Lib.hid (HB3.out.trans (hb4.mono (by have := HB3.out.size; have := HSP.out; omega)))
      clear hb4 HF
      go_wp2_with fail
      refine HN.out.mono ?_
      rintro e w5 ⟨rfl, rfl⟩
      go_wp2
      go_ret
      exact ⟨rfl, by rw [HSP.out]; exact HB4.out⟩
end Go.Proofs.Ytpihgikcgkipaaa
