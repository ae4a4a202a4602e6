/-
  sent: Ack.
-/
import Derived.Test.YtpihgikcgkipaaaUg
namespace Go.Proofs.Ytpihgikcgkipaaa
set_option linter.unusedVariables false
set_option linter.unusedSimpArgs false
open Go.RowKit
/-- What Ack leaves. -/
def AckPost (base p : Nat) (nx ak : Int) (hd : Bool) (v : Value) (l : PL) (rs : RL) (w : World) (e : Ending) (w' : World) : Prop :=
  (¬ MayR rs ∧ e = .returned (.tuple #[.slice none 0 0, .slice none 0 0, .int .i64 1]) ∧ Below w.heap.size w w') ∨
  (MayR rs ∧ ∃ z, rs[rs.length - 1]? = some z ∧ ((nx < z.2 ∧ e = .returned (.tuple #[.slice none 0 0, .slice none 0 0, .int .i64 14]) ∧ Below w.heap.size w w') ∨
    (z.2 ≤ nx ∧ ∃ vg vl vr, e = .returned (.tuple #[vg, vl, .int .i64 0]) ∧
      LV w' base p nx (max ak (z.2 - 1)) true vr ((l.filter (fun r => !hasL rs r.n)).filter (fun r => !decide (r.n + 3 ≤ max ak (z.2 - 1)))) ∧
      OwnP w' w.heap.size vg (l.filter (fun r => hasL rs r.n)) ∧
      OwnP w' w.heap.size vl ((l.filter (fun r => !hasL rs r.n)).filter (fun r => decide (r.n + 3 ≤ max ak (z.2 - 1)))) ∧ Kept (· = p) w w' ∧ ∀ j, vr.ownBlock = some j → w.heap.size ≤ j)))
section
variable {base p : Nat} {nx ak : Int} {hd : Bool} {v : Value} {l : PL} {w : World}
set_option maxRecDepth 100000 in
set_option maxHeartbeats 4000000 in
theorem sack_any (P : Nat → Prop) (A : Option Addr) (n c : Nat) (rs : RL) (hs : LV w base p nx ak hd v l) (hr : RnP w P A n rs) (hP : ¬ P p) (hnc : n ≤ c) (hcm : c ≤ maxLen) (hn : n ≤ 400000) (hl : l.length ≤ 64) (hg : ∀ r ∈ l, 0 ≤ r.n ∧ r.n < 4611686018427387904 - 1) (h0 : 0 ≤ nx ∧ nx ≤ 4611686018427387904 - 1) (ha : 0 ≤ ak ∧ ak < 4611686018427387904) :
    Calls Try.prog 12 #[.pointer (some ⟨p, 0, none⟩), .slice A n c] w (AckPost base p nx ak hd v l rs w) := by
  have hpl := hs.at_.lt
  have hax : Below w.heap.size w (w.alloc (.cells #[.pointer (some ⟨p, 0, none⟩)] 22)) := (Below.refl _ _).alloc (Nat.le_refl _) _
  have hbx : (w.alloc (.cells #[.pointer (some ⟨p, 0, none⟩)] 22)).cell? ⟨w.heap.size, 0, none⟩ = some (.pointer (some ⟨p, 0, none⟩)) := (At.new w 22 [.pointer (some ⟨p, 0, none⟩)]).cell 0
  have hszx : (w.alloc (.cells #[.pointer (some ⟨p, 0, none⟩)] 22)).heap.size = w.heap.size + 1 := by simp
  have HM := Lib.hid (mayBe_any P A n c rs _ (hr.below hax) hnc hcm)
  have HS := Lib.hid hs
  have HR := Lib.hid hr
  have HAX := Lib.hid hax
  have HBX := Lib.hid hbx
  have HSZ := Lib.hid hszx
  have HG := Lib.hid hg
  have HLN := Lib.hid hr.len
  have HH0 := Lib.hid h0
  have HHA := Lib.hid ha
  have hcm' : c ≤ 9223372036854775807 := by unfold maxLen at hcm; omega
  clear hs hr hax hbx hszx hg h0 ha
  go_enter Try.func12, Try.ntmps12
  by_cases hm : MayR rs
  rotate_left
  · have HNM := Lib.hid hm
    have HM2 := Lib.hid (HM.out.mono (R' := fun e w' => e = .returned (.bool false) ∧ Below w.heap.size w w') (fun e w' h => by
      obtain ⟨b, h1, h2, h3⟩ := h
      cases b
      · exact ⟨h1, HAX.out.trans (h3.mono (by rw [HSZ.out]; omega))⟩
      · exact absurd (h2.1 rfl) HNM.out))
    clear hm HM HBX HSZ
    go_wp2_with (go_at_call 27; refine HM2.out.mono ?_; rintro e w1 ⟨rfl, hb1⟩)
    go_ret3
    exact .inl ⟨HNM.out, rfl, hb1⟩
  · have HMR := Lib.hid hm
    have HM2 := Lib.hid (HM.out.mono (R' := fun e w' => e = .returned (.bool true) ∧ Below (w.alloc (.cells #[.pointer (some ⟨p, 0, none⟩)] 22)).heap.size (w.alloc (.cells #[.pointer (some ⟨p, 0, none⟩)] 22)) w') (fun e w' h => by
      obtain ⟨b, h1, h2, h3⟩ := h
      obtain rfl := h2.2 HMR.out
      exact ⟨h1, h3⟩))
    clear hm HM
    have hn0 : 0 < n := by
      have h1 := HMR.out.1
      have h2 := HLN.out
      rcases Nat.eq_zero_or_pos n with h | h
      · subst h; exact absurd (List.eq_nil_of_length_eq_zero h2) h1
      · exact h
    obtain ⟨b, off, rfl, hbl, hbp, hbc⟩ := HR.out.at_ hn0
    obtain ⟨⟨z1, z⟩, hz⟩ : ∃ z, rs[rs.length - 1]? = some z := ⟨_, List.getElem?_eq_getElem (by rw [HLN.out]; omega)⟩
    have hzc := (hbc (n - 1) _ (by rw [← HLN.out]; exact hz)).2
    simp only at hzc
    have hzo : z1 < z ∧ 0 ≤ z1 := by
      have h1 := (HMR.out.2 _ (by rw [HLN.out]; omega) _ hz).1
      have h2 := HR.out.wd _ (List.mem_of_getElem? hz)
      exact ⟨h1, h2.1⟩
    have HZ := Lib.hid hz
    clear hbc hz
    go_wp2_with fail
    refine HM2.out.mono ?_
    rintro e w1 ⟨rfl, hb1⟩
    have hB1 := HAX.out.trans (hb1.mono HAX.out.size)
    have hs1 := HS.out.below hB1
    have b1 : w1.cell? ⟨w.heap.size, 0, none⟩ = some (.pointer (some ⟨p, 0, none⟩)) := (hb1.cell (p := ⟨w.heap.size, 0, none⟩) (by rw [HSZ.out]; exact Nat.lt_succ_self _)).trans HBX.out
    have z1c := (hB1.cell (p := ⟨b, off + (n - 1) * 2 + 1, none⟩) hbl).trans hzc
    have l0 := hs1.at_.cell 0
    have l1 := hs1.at_.cell 1
    have HS1 := Lib.hid hs1
    have HB1 := Lib.hid hB1
    have hsz1 : w.heap.size < w1.heap.size := by have := hb1.size; rw [HSZ.out] at this; omega
    clear hs1 hB1 hb1 hzc HBX HAX HSZ HM2
    have hnz : (0 : Int) < (n : Int) := by omega
    have hwi : IntKind.i64.wrap ((n : Int) - 1) = ((n - 1 : Nat) : Int) := by rw [IntKind.wrap_i64]; omega
    have hjz : ((n - 1 : Nat) : Int) < (n : Int) := by omega
    by_cases hc : z ≤ nx
    rotate_left
    · have hc' : nx < z := by omega
      clear hc
      go_wp2
      go_ret3
      exact .inr ⟨HMR.out, _, HZ.out, .inl ⟨hc', rfl, HB1.out⟩⟩
    · have HC := Lib.hid hc
      have hc' : ¬ nx < z := by omega
      have hwz : IntKind.u64.wrap (z - 1) = z - 1 := by rw [IntKind.wrap_u64]; have := HH0.out; omega
      have f1 := HS1.out.at_.frozen 1
      have f2 := HS1.out.at_.frozen 2
      have l2 := HS1.out.at_.cell 2
      go_wp2
      go_region
      rw [show (if ak < z - 1 then z - 1 else ak) = max ak (z - 1) by split <;> omega]
      have hMb : 0 ≤ max ak (z - 1) ∧ max ak (z - 1) < 4611686018427387904 := by have := HHA.out; have := HH0.out; omega
      obtain ⟨M, hM⟩ : ∃ M, max ak (z - 1) = M := ⟨_, rfl⟩
      rw [hM] at hMb ⊢
      have HMX := Lib.hid hM
      clear hM
      generalize hW : World.drew _ = W
      have hk1 : Kept (· = p) w1 W := by subst hW; exact (((Kept.refl _ _).setAt _ _).setAt _ _).drew
      have hs2 : LV W base p nx M true v l := by
        have a1 := (HS1.out.at_.set 1 (.int .u64 M)).set 2 (.bool true)
        refine ⟨?_, ownG_kept HS1.out.own hk1 (fun j hj e => HS1.out.ne (by rw [hj, e])), fun r hr => (HS1.out.fr r hr).kept hk1 HS1.out.noFr, HS1.out.bp⟩
        subst hW
        exact a1
      have b2 : W.cell? ⟨w.heap.size, 0, none⟩ = some (.pointer (some ⟨p, 0, none⟩)) := (hk1.cell (p := ⟨w.heap.size, 0, none⟩) hsz1 (by show ¬ w.heap.size = p; omega)).trans b1
      have hr2 := (HR.out.below HB1.out).kept hk1 (fun b hb e => hP (by rw [← e]; exact hb))
      have hwW : Kept (· = p) w W := (Kept.of_below HB1.out _).trans hk1
      have hszW : w.heap.size < W.heap.size := Nat.lt_of_lt_of_le hsz1 hk1.size
      have hgd := may_gd HMR.out HR.out.wd HZ.out (by have := HH0.out; show z ≤ _; omega)
      have HSO := Lib.hid (setOf_any P (some ⟨b, off, none⟩) n c rs W hr2 hnc hcm hgd hn)
      have HGD := Lib.hid hgd
      have HS2 := Lib.hid hs2
      have HWW := Lib.hid hwW
      clear hW hk1 hs2 hr2 hgd hwW b1 z1c l0 l1 l2 f1 f2 hsz1 HS1 HB1
      go_wp2_with fail
      refine HSO.out.mono ?_
      rintro e w2 ⟨sp, vv, rfl, hS2, hb2⟩
      have hax := hb2.alloc hb2.size (.cells #[.pointer (some ⟨sp, 0, none⟩)] 73)
      have hs3 := HS2.out.below hax
      have hS3 := hS2.below ((Below.refl w2.heap.size w2).alloc (Nat.le_refl _) (.cells #[.pointer (some ⟨sp, 0, none⟩)] 73))
      have hc3 := (At.new w2 73 [.pointer (some ⟨sp, 0, none⟩)]).cell 0
      have b3 := (hax.cell (p := ⟨w.heap.size, 0, none⟩) hszW).trans b2
      have b3x := b3
      have hz3 : (w2.alloc (.cells #[.pointer (some ⟨sp, 0, none⟩)] 73)).heap.size = w2.heap.size + 1 := by simp
      obtain ⟨g8, hg8⟩ : ∃ x, w2.heap.size = x := ⟨_, rfl⟩
      obtain ⟨w3, hw3⟩ : ∃ x, w2.alloc (.cells #[.pointer (some ⟨sp, 0, none⟩)] 73) = x := ⟨_, rfl⟩
      rw [hw3] at hax hs3 hS3 hc3 b3 hz3
      rw [hg8] at hc3 hz3
      have HW3 := Lib.hid hw3
      have HG8 := Lib.hid hg8
      have hln : rs.length ≤ 1000000 := by rw [HLN.out]; omega
      have eg1 : ∀ args w, (callFunc 30 args).run Try.prog w = .ok (.enter 30 args) w := fun args w => by rfl
      have eg2 : ∀ args w, (callFunc 32 args).run Try.prog w = .ok (.enter 32 args) w := fun args w => by rfl
      have HP1 := Lib.hid (part_any base p nx M true v l w3 hs3 30 #[.pointer (some ⟨g8, 0, none⟩)] (fun r => hasL rs r.n) (by omega) eg1 (fun W' hW' r hr => cl_ack1 g8 _ sp _ vv rs r W' (Nat.lt_of_lt_of_le (by omega) hW'.size) ((hW'.cell (p := ⟨g8, 0, none⟩) (by rw [hz3]; exact Nat.lt_succ_self _)).trans hc3) (hS3.below hW') hln HGD.out))
      clear hw3 hg8 hS2 hS3 hb2 hln eg1
      go_wp2_with fail
      rw [HW3.out, HG8.out]
      refine HP1.out.mono ?_
      rintro e w4 ⟨⟨vg, vr, rfl, hs4, hog, _⟩, hk4⟩
      have b4 := (hk4.cell (p := ⟨w.heap.size, 0, none⟩) (show w.heap.size < w3.heap.size by have := hax.size; omega) (by show ¬ w.heap.size = p; omega)).trans b3
      have hw34 : w.heap.size < w4.heap.size := Nat.lt_of_lt_of_le (show w.heap.size < w3.heap.size by have := hax.size; omega) hk4.size
      have hlr : (l.filter (fun r => !hasL rs r.n)).length ≤ 100000 := by have := List.length_filter_le (fun r => !hasL rs r.n) l; omega
      have HP2 := Lib.hid (part_any base p nx M true vr _ w4 hs4 32 #[.pointer (some ⟨w.heap.size, 0, none⟩)] (fun r => decide (r.n + 3 ≤ M)) hlr eg2 (fun W' hW' r hr => cl_ack2 _ p nx M true vr r W' (Nat.lt_of_lt_of_le hw34 hW'.size) ((hW'.cell (p := ⟨w.heap.size, 0, none⟩) hw34).trans b4) (hs4.at_.below hW' hs4.at_.lt) (by have := HG.out r (List.mem_filter.1 hr).1; omega)))
      have HE4 := Lib.hid (And.intro hog (And.intro hk4 hax))
      clear hs4 hog hk4 hlr hs3 hax b3x eg2 HP1 HW3 HG8
      go_wp2_with fail
      refine HP2.out.mono ?_
      rintro e w5 ⟨⟨vl, vr5, rfl, hs5, hol, hfr5⟩, hk5⟩
      have hog5 := ownG_kept HE4.out.1 hk5 (fun j hj e => by
        have h1 := (ownG_lt HE4.out.1 j hj).1
        have h2 := HE4.out.2.2.size
        omega)
      have hkf : Kept (· = p) w w5 := (HWW.out.trans' (Kept.of_below HE4.out.2.2 (fun _ => False)) (fun j hj => hj.elim)).trans (HE4.out.2.1.trans hk5)
      have HE5 := Lib.hid (And.intro hs5 (And.intro hog5 (And.intro hol (And.intro hkf hfr5))))
      have HSZ5 := Lib.hid (show w.heap.size ≤ w4.heap.size from by have := HE4.out.2.1.size; have := HE4.out.2.2.size; omega)
      clear hs5 hog5 hol hk5 hkf hfr5 HP2
      go_wp2
      go_ret3
      refine .inr ⟨HMR.out, _, HZ.out, .inr ⟨HC.out, vg, vl, vr5, rfl, ?_⟩⟩
      simp only
      rw [HMX.out]
      exact ⟨HE5.out.1, ownG_base HE5.out.2.1 (by have := HE4.out.2.2.size; omega), ownG_base HE5.out.2.2.1 HSZ5.out, HE5.out.2.2.2.1, fun j hj => Nat.le_trans HSZ5.out (HE5.out.2.2.2.2 j hj)⟩
end
end Go.Proofs.Ytpihgikcgkipaaa
