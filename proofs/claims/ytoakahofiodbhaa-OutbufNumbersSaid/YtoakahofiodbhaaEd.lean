/-
  Chapter 15's law: one call told to both buffers (do).
-/
import Derived.Test.YtoakahofiodbhaaEc
import Derived.Test.YtoakahofiodbhaaEa
import Derived.Test.YtoakahofiodbhaaDi
import Derived.Test.YtoakahofiodbhaaDj
import Derived.Test.YtoakahofiodbhaaDp
import Derived.Test.YtoakahofiodbhaaDw
import Derived.Test.YtoakahofiodbhaaStrs
import Derived.BigQuiet
namespace Go.Proofs.Ytoakahofiodbhaa
set_option linter.unusedVariables false
set_option linter.unusedSimpArgs false
open Go.RowKit
theorem ecut_any (A : Option Addr) (n c m : Nat) (w : World) (hnc : n ≤ c) (hcm : c ≤ maxLen) (hm : m ≤ 1000000) (hA : A = none → c = 0) :
    Calls Try.prog 11 #[.slice A n c, .int .i64 m] w fun e w' => e = .returned (.slice A (min n m) c) ∧ w' = w := by
  have hcm' : c ≤ 9223372036854775807 := by unfold maxLen at hcm; omega
  by_cases h : m < n
  · have hz : (m : Int) < (n : Int) := by omega
    have hmc : (m : Int) ≤ (c : Int) := by omega
    rw [show min n m = m by omega]
    cases A with
    | none => have := hA rfl; omega
    | some ad =>
      clear hA
      go_enter Try.func11, Try.ntmps11
      go_wp2
      go_ret
      exact ⟨rfl, rfl⟩
  · have hz : ¬ (m : Int) < (n : Int) := by omega
    rw [show min n m = n by omega]
    clear hA
    go_enter Try.func11, Try.ntmps11
    go_wp2
    go_ret
    exact ⟨rfl, rfl⟩
/-- A call: its seven fields, its bytes. -/
structure AskE where
  k : Int
  most : Int
  n : Int
  off : Nat
  lim : Nat
  fin : Bool
  A : Option Addr
  m : Nat
  c : Nat
  bs : List Int
def AskE.cs (d : AskE) : List Value := [.int .i64 d.k, .int .i64 d.most, .int .i64 d.n, .int .u64 d.off, .int .u64 d.lim, .bool d.fin, .slice d.A d.m d.c]
def AskE.v (d : AskE) : Value := .agg d.cs.toArray
structure AskE.wf (d : AskE) : Prop where
  most : -9223372036854775808 ≤ d.most ∧ d.most < 4611686018427387904
  n : -9223372036854775808 ≤ d.n ∧ d.n < 9223372036854775808
  off : d.off < 18446744073709551616
  lim : d.lim < 18446744073709551616
  lc : d.m ≤ d.c
  cm : d.c ≤ maxLen
  nil : d.A = none → d.c = 0
/-- What a call told to both leaves. -/
def DPe (B p q : Nat) (S : OS) (w : World) (e : Ending) (w' : World) : Prop := e = .returned (.bool true) ∧ (∃ S', Te B w' p q S' ∧ S'.bs.length ≤ S.bs.length + 60) ∧ Below B w w'
/-- Both calls are done. -/
theorem te_fin {B p q : Nat} {S S' : OS} {w w1 w2 w3 : World} {O1 O2 O1' O2' : Nat → Prop} {L L' : List Value} (hB : B ≤ w.heap.size) (b1 : Below w.heap.size w w1) (ok' : S'.ok) (le' : S'.bs.length ≤ 800000) (f : Of w1 B p O1 S) (r : Rs w1 B q 0 33 L O2 S) (hd : ∀ j, O1 j → ¬ O2 j)
    (f2 : Of w2 B p O1' S') (k2 : Kept O1 w1 w2) (o2 : ∀ j, O1' j → O1 j ∨ w1.heap.size ≤ j) (r3 : Rs w3 B q 0 33 L' O2' S') (k3 : Kept O2 w2 w3) (o3 : ∀ j, O2' j → O2 j ∨ w2.heap.size ≤ j) :
    Te B w3 p q S' ∧ Below B w w3 := by
  have dj : ∀ j, O1' j → ¬ O2 j := fun j hj e => (o2 j hj).elim (fun h => hd j h e) fun h' => by have := (r.lt j e).2; omega
  have s1 := b1.size
  have s2 := k2.size
  have s3 := k3.size
  refine ⟨⟨ok', ⟨O1', O2', L', f2.kept k3 (fun b hb e => dj b hb e), r3, fun j hj e => (o3 j e).elim (dj j hj) fun h' => by have := (f2.lt j hj).2; omega⟩, by omega, le'⟩, ?_⟩
  exact k3.below (k2.below (b1.mono hB) (by omega) (fun j hj => (f.lt j hj).1)) (by omega) (fun j hj => (r.lt j hj).1)
theorem Rs.rg {w : World} {base q o : Nat} {T : TypeId} {L : List Value} {O : Nat → Prop} {S : OS} (h : Rs w base q o T L O S) : ∀ x, rgO q o L x → O x := by
  obtain ⟨vb, va, vg, C, A, rfl, hr, _⟩ := h
  rintro x (rfl | ⟨v, hv, hx⟩)
  · exact rqO_at (i := 0) rfl
  · have := hr.cl 2 _ rfl
    rw [hv] at this
    injection this with this
    subst this
    exact rqO_at (i := 3) (congrArg some hx)
theorem nextO_bs (S : OS) (m l : Nat) : (nextO S m l).bs = S.bs := rfl
set_option maxHeartbeats 16000000 in
set_option maxRecDepth 100000 in
theorem do15_any (B p q : Nat) (S : OS) (d : AskE) (w : World) (h : Te B w p q S) (hw : d.wf) (hrd : Rd w B d.A d.m d.bs) (hle : S.bs.length + 60 ≤ 800000) : Calls Try.prog 7 #[.pointer (some ⟨p, 0, none⟩), .pointer (some ⟨q, 0, none⟩), d.v] w (DPe B p q S w) := by
  obtain ⟨O1, O2, L, hf, hr, hd⟩ := h.two
  obtain ⟨k, most, n, off, lim, fin, A, m, c, bs⟩ := d
  have hok := h.ok
  have hB := h.hB
  have hmo := hw.most
  have hn := hw.n
  have hof := hw.off
  have hli := hw.lim
  have hlc := hw.lc
  have hcm := hw.cm
  have hA := hw.nil
  simp only at hmo hn hof hli hlc hcm hA hrd
  unfold AskE.v AskE.cs
  simp only
  obtain ⟨g5, hg5⟩ : ∃ g, w.heap.size = g := ⟨_, rfl⟩
  obtain ⟨w1, hw1⟩ : ∃ x, w.alloc (.cells #[.int .i64 k, .int .i64 most, .int .i64 n, .int .u64 off, .int .u64 lim, .bool fin, .slice A m c] 25) = x := ⟨_, rfl⟩
  have hA1 : At w1 g5 25 [.int .i64 k, .int .i64 most, .int .i64 n, .int .u64 off, .int .u64 lim, .bool fin, .slice A m c] := by rw [← hw1, ← hg5]; exact At.new w _ _
  have hb1 : Below w.heap.size w w1 := by rw [← hw1]; exact (Below.refl _ _).alloc (Nat.le_refl _) _
  have a0 : w1.cell? ⟨g5, 0, none⟩ = some (.int .i64 k) := by rw [hA1.cell]; rfl
  have a1 : w1.cell? ⟨g5, 1, none⟩ = some (.int .i64 most) := by rw [hA1.cell]; rfl
  have a2 : w1.cell? ⟨g5, 2, none⟩ = some (.int .i64 n) := by rw [hA1.cell]; rfl
  have a3 : w1.cell? ⟨g5, 3, none⟩ = some (.int .u64 off) := by rw [hA1.cell]; rfl
  have a4 : w1.cell? ⟨g5, 4, none⟩ = some (.int .u64 lim) := by rw [hA1.cell]; rfl
  have a5 : w1.cell? ⟨g5, 5, none⟩ = some (.bool fin) := by rw [hA1.cell]; rfl
  have a6 : w1.cell? ⟨g5, 6, none⟩ = some (.slice A m c) := by rw [hA1.cell]; rfl
  have hf1 := hf.below hb1
  have hr1 := hr.below hb1
  have hB1 : B ≤ w1.heap.size := Nat.le_trans hB hb1.size
  have hlt1 := hf.lt
  have hlt2 := hr.lt
  have HG : Hid (¬ O1 g5 ∧ ¬ O2 g5) := Lib.hid ⟨fun e => by have := (hlt1 g5 e).2; omega, fun e => by have := (hlt2 g5 e).2; omega⟩
  have HA1 := Lib.hid hA1
  have HR2 : Hid (∀ w2, Kept O1 w1 w2 → Rs w2 B q 0 33 L O2 S ∧ B ≤ w2.heap.size) := Lib.hid (fun w2 k2 => ⟨hr1.kept k2 fun b hb hb' => hd b hb' hb, Nat.le_trans hB1 k2.size⟩)
  have HFIN : Hid (∀ (S' : OS), S'.ok → S'.bs.length ≤ 800000 → ∀ (w2 w3 : World) (O1' O2' : Nat → Prop) (L' : List Value), Of w2 B p O1' S' → Kept O1 w1 w2 → (∀ j, O1' j → O1 j ∨ w1.heap.size ≤ j) → Rs w3 B q 0 33 L' O2' S' → Kept O2 w2 w3 → (∀ j, O2' j → O2 j ∨ w2.heap.size ≤ j) → Te B w3 p q S' ∧ Below B w w3) := Lib.hid (fun S' ok' le' w2 w3 O1' O2' L' f2 k2 o2 r3 k3 o3 => te_fin hB hb1 ok' le' hf1 hr1 hd f2 k2 o2 r3 k3 o3)
  have HRD := Lib.hid (hrd.below (hb1.mono hB))
  have HNE : Hid (∀ j, j < B → ¬ O1 j ∧ ¬ O2 j) := Lib.hid (fun j hj => ⟨fun e => by have := (hlt1 j e).1; omega, fun e => by have := (hlt2 j e).1; omega⟩)
  have HF1 := Lib.hid hf1
  have HSZ := Lib.hid hb1.size
  clear hf hr hf1 hr1 hlt1 hlt2 h hw hrd hA1 hb1 hd
  obtain ⟨lim', hlm⟩ : ∃ x : Nat, x = if n.tmod 3 = 0 then lim else lim % 400 := ⟨_, rfl⟩
  obtain ⟨off', hom⟩ : ∃ x : Nat, x = if n.tmod 4 = 0 then off else off % 300 := ⟨_, rfl⟩
  have hli' : lim' < 18446744073709551616 := by rw [hlm]; split <;> omega
  have hof' : off' < 18446744073709551616 := by rw [hom]; split <;> omega
  have HLM := Lib.hid hlm
  have HOM := Lib.hid hom
  clear hlm hom
  go_enter Try.func7, Try.ntmps7
  go_upto_region 1 with fail
  (try rw [hg5])
  (try rw [hw1])
  go_upto_if 23 with fail
  go_cut [7] from 24 to 25 (fun s7 wx => s7 = .int .u64 lim' ∧ wx = w1)
  case first =>
    clear HFIN HR2 HRD HNE HF1 HSZ HA1 HG
    by_cases hc : n.tmod 3 = 0
    · have HE : Hid (lim' = lim) := Lib.hid (by rw [HLM.out, if_pos hc])
      clear HLM
      go_wp2
      go_meet
      exact ⟨by rw [HE.out], rfl⟩
    · have HE : Hid ((lim' : Int) = (lim : Int) % 400) := Lib.hid (by rw [HLM.out, if_neg hc]; omega)
      clear HLM
      go_wp2
      go_meet
      exact ⟨by rw [HE.out], rfl⟩
  case rest =>
  obtain ⟨rfl, hwc⟩ := hcut
  rw [hwc]
  clear hwc
  go_upto_if 31 with fail
  go_cut [8] from 32 to 33 (fun s8 wx => s8 = .int .u64 off' ∧ wx = w1)
  case first =>
    clear HFIN HR2 HRD HNE HF1 HSZ HA1 HG
    by_cases hc : n.tmod 4 = 0
    · have HE : Hid (off' = off) := Lib.hid (by rw [HOM.out, if_pos hc])
      clear HOM
      go_wp2
      go_meet
      exact ⟨by rw [HE.out], rfl⟩
    · have HE : Hid ((off' : Int) = (off : Int) % 300) := Lib.hid (by rw [HOM.out, if_neg hc]; omega)
      clear HOM
      go_wp2
      go_meet
      exact ⟨by rw [HE.out], rfl⟩
  case rest =>
  obtain ⟨rfl, hwc⟩ := hcut
  rw [hwc]
  clear hwc HLM HOM a3 a4
  have HX : Hid (∀ w2, Kept O1 w1 w2 → w2.cell? ⟨g5, 1, none⟩ = some (.int .i64 most) ∧ w2.cell? ⟨g5, 2, none⟩ = some (.int .i64 n) ∧ w2.cell? ⟨g5, 5, none⟩ = some (.bool fin)) := Lib.hid (fun w2 k2 => by
    have h1 := HA1.out.kept k2 HG.out.1
    exact ⟨by rw [h1.cell]; rfl, by rw [h1.cell]; rfl, by rw [h1.cell]; rfl⟩)
  have HOK := Lib.hid hok
  have HLE := Lib.hid hle
  have HSM0 : Hid (∀ S' w3, Te B w3 p q S' → Calls Try.prog 26 #[.pointer (some ⟨p, 0, none⟩), .pointer (some ⟨q, 0, none⟩), .int .u64 lim'] w3 fun e w' => e = .returned (.bool true) ∧ Below w3.heap.size w3 w') := Lib.hid (fun S' w3 h => same15_any B p q S' w3 h lim' hli')
  by_cases k2 : k = 2
  · subst k2
    have H1 := Lib.hid (ofinish_any HF1.out hok)
    have H2 := Lib.hid (fun w2 k2 => rfinish_any (HR2.out w2 k2).1)
    clear hok hle
    go_wp2_with (first
      | (go_at_call 12; (with_reducible refine H1.out.mono ?_); rintro e w2 ⟨rfl, O1', f2, k2, o2⟩; have HF2 := Lib.hid f2; have HK2 := Lib.hid k2; have HQ2 := Lib.hid o2; obtain ⟨x1, x2, x5⟩ := HX.out w2 k2; clear f2 k2 o2)
      | (go_at_call 22; (with_reducible refine (H2.out w2 HK2.out).mono ?_); rintro e w3 ⟨rfl, L', O2', r3, _, k3, o3⟩; have HT := Lib.hid (HFIN.out (finO S) (finO_ok HOK.out) (by have := HLE.out; show S.bs.length ≤ _; omega) w2 w3 O1' O2' L' HF2.out HK2.out HQ2.out r3 k3 o3); have HSM := Lib.hid (HSM0.out _ w3 HT.out.1); clear r3 k3 o3)
      | (go_at_call 26; (with_reducible refine HSM.out.mono ?_); rintro e w4 ⟨rfl, hb4⟩; have HB4 := Lib.hid hb4; clear hb4))
    go_ret
    exact ⟨by first | rfl | simp, ⟨_, HT.out.1.below HB4.out, by show S.bs.length ≤ S.bs.length + 60; omega⟩, HT.out.2.trans (HB4.out.mono HT.out.1.hB)⟩
  by_cases k3 : k = 3 ∨ k = 4 ∨ k = 5
  · have H1 := Lib.hid (onext_any HF1.out hok hB1 (by omega) most (by omega) lim' hli')
    have H2 := Lib.hid (fun w2 k2 => rnext_any (HR2.out w2 k2).1 hok (HR2.out w2 k2).2 (by omega) most hmo lim' hli')
    have HRG := Lib.hid (fun w2 k2 => (HR2.out w2 k2).1.rg)
    have HV : Hid (∀ (w2 w3 : World) (v : Value) (bs : List Int), Kept O1 w1 w2 → Own w2 w1.heap.size 5 v bs → Kept O2 w2 w3 → Own w3 w1.heap.size 5 v bs) := Lib.hid (fun w2 w3 v bs k2 ho k3 => ho.kept k3 fun j hj e => by have := ((HR2.out w1 (Kept.refl _ _)).1.lt j e).2; have := (ho.block_lt j hj).1; omega)
    obtain ⟨r, hr⟩ : ∃ r, r = nextR S most.toNat lim' := ⟨_, rfl⟩
    obtain ⟨out, hout⟩ : ∃ out, out = (S.bs.drop r.off).take r.n := ⟨_, rfl⟩
    obtain ⟨nn, hnn⟩ : ∃ nn, out.length = nn := ⟨_, rfl⟩
    have HLO := Lib.hid hnn
    have HRR := Lib.hid hr
    have HOUT := Lib.hid hout
    clear hok hle hr hout hnn
    have hbb := bb_refl (strOfNums out)
    obtain ⟨ro, rn, rf, ry⟩ := r
    rcases k3 with k3 | k3 | k3 <;> subst k3
    all_goals go_wp2_with (first
      | (go_at_call 14; (with_reducible refine H1.out.mono ?_); rintro e w2 ⟨v, rfl, ho2, O1', f2, k2, o2⟩; rw [← HRR.out] at ho2 ⊢; rw [← HOUT.out] at ho2; obtain ⟨A2, c2, rfl, _, _, _⟩ := ho2.open_n nn HLO.out; have HO2 := Lib.hid ho2; clear ho2; have HF2 := Lib.hid f2; have HK2 := Lib.hid k2; have HQ2 := Lib.hid o2; obtain ⟨x1, x2, x5⟩ := HX.out w2 k2; clear f2 k2 o2)
      | (go_at_call 23; (with_reducible refine (H2.out w2 HK2.out).mono ?_); rintro e w3 ⟨v', rfl, ho3, L', O2', r3, _, kg, o3⟩; rw [← HRR.out] at ho3 ⊢; rw [← HOUT.out] at ho3; obtain ⟨A3, c3, rfl, _, _, _⟩ := ho3.open_n nn HLO.out; have k3 : Kept O2 w2 w3 := kg.mono fun x hx => .inl (HRG.out w2 HK2.out x hx); clear kg; have hv := HV.out w2 w3 _ _ HK2.out HO2.out k3; obtain ⟨A4, c4, e4, _, _, hr4⟩ := hv.open_n nn HLO.out; injection e4 with e41 _ e43; subst e41; subst e43; obtain ⟨A5, c5, e5, _, _, hr5⟩ := ho3.open_n nn HLO.out; injection e5 with e51 _ e53; subst e51; subst e53; have t1 := run_text (P := Try.prog) (c := c2) hr4 22 5 9 Try.underlying22 Try.underlying5 Try.underlying9; have t2 := run_text (P := Try.prog) (c := c3) hr5 22 5 9 Try.underlying22 Try.underlying5 Try.underlying9; clear hr4 hr5 hv ho3; have HT := Lib.hid (HFIN.out (nextO S most.toNat lim') (nextO_ok HOK.out _ _) (by have := HLE.out; show S.bs.length ≤ _; omega) w2 w3 O1' O2' L' HF2.out HK2.out HQ2.out r3 k3 o3); have HSM := Lib.hid (HSM0.out _ w3 HT.out.1); clear r3 k3 o3)
      | (go_at_call 26; (with_reducible refine HSM.out.mono ?_); rintro e w4 ⟨rfl, hb4⟩; have HB4 := Lib.hid hb4; clear hb4))
    all_goals go_ret
    all_goals exact ⟨by first | rfl | simp, ⟨_, HT.out.1.below HB4.out, by show S.bs.length ≤ S.bs.length + 60; omega⟩, HT.out.2.trans (HB4.out.mono HT.out.1.hB)⟩
  by_cases k6 : k = 6
  · subst k6
    have H1 := Lib.hid (oacked_any HF1.out hok hB1 (by omega) off' hof' n hn fin)
    have H2 := Lib.hid (fun w2 k2 => rturn_acked (HR2.out w2 k2).1 hok (by omega) off' hof' n hn fin)
    clear hok hle
    go_wp2_with (first
      | (go_at_call 16; (with_reducible refine H1.out.mono ?_); rintro e w2 ⟨rfl, O1', f2, k2, o2⟩; have HF2 := Lib.hid f2; have HK2 := Lib.hid k2; have HQ2 := Lib.hid o2; obtain ⟨x1, x2, x5⟩ := HX.out w2 k2; clear f2 k2 o2)
      | (go_at_call 24; (with_reducible refine (H2.out w2 HK2.out).mono ?_); rintro e w3 ⟨rfl, L', O2', r3, _, k3, o3⟩; have HT := Lib.hid (HFIN.out (ackO S off' n.toNat fin) (ackO_ok HOK.out _ _ _) (by have := HLE.out; show S.bs.length ≤ _; omega) w2 w3 O1' O2' L' HF2.out HK2.out HQ2.out r3 k3 o3); have HSM := Lib.hid (HSM0.out _ w3 HT.out.1); clear r3 k3 o3)
      | (go_at_call 26; (with_reducible refine HSM.out.mono ?_); rintro e w4 ⟨rfl, hb4⟩; have HB4 := Lib.hid hb4; clear hb4))
    go_ret
    exact ⟨by first | rfl | simp, ⟨_, HT.out.1.below HB4.out, by show S.bs.length ≤ S.bs.length + 60; omega⟩, HT.out.2.trans (HB4.out.mono HT.out.1.hB)⟩
  by_cases k7 : k = 7
  · subst k7
    have H1 := Lib.hid (olost_any HF1.out hok hB1 (by omega) off' hof' n hn fin)
    have H2 := Lib.hid (fun w2 k2 => rturn_lost (HR2.out w2 k2).1 hok (by omega) off' hof' n hn fin)
    clear hok hle
    go_wp2_with (first
      | (go_at_call 15; (with_reducible refine H1.out.mono ?_); rintro e w2 ⟨rfl, O1', f2, k2, o2⟩; have HF2 := Lib.hid f2; have HK2 := Lib.hid k2; have HQ2 := Lib.hid o2; obtain ⟨x1, x2, x5⟩ := HX.out w2 k2; clear f2 k2 o2)
      | (go_at_call 24; (with_reducible refine (H2.out w2 HK2.out).mono ?_); rintro e w3 ⟨rfl, L', O2', r3, _, k3, o3⟩; have HT := Lib.hid (HFIN.out (lostO S off' n.toNat fin) (lostO_ok HOK.out _ _ _) (by have := HLE.out; show S.bs.length ≤ _; omega) w2 w3 O1' O2' L' HF2.out HK2.out HQ2.out r3 k3 o3); have HSM := Lib.hid (HSM0.out _ w3 HT.out.1); clear r3 k3 o3)
      | (go_at_call 26; (with_reducible refine HSM.out.mono ?_); rintro e w4 ⟨rfl, hb4⟩; have HB4 := Lib.hid hb4; clear hb4))
    go_ret
    exact ⟨by first | rfl | simp, ⟨_, HT.out.1.below HB4.out, by show S.bs.length ≤ S.bs.length + 60; omega⟩, HT.out.2.trans (HB4.out.mono HT.out.1.hB)⟩
  have hk3 : ¬ k = 3 := fun e => k3 (.inl e)
  have hk4 : ¬ k = 4 := fun e => k3 (.inr (.inl e))
  have hk5 : ¬ k = 5 := fun e => k3 (.inr (.inr e))
  clear k3
  have HCU : Hid (Calls Try.prog 11 #[.slice A m c, .int .i64 60] w1 fun e w' => e = .returned (.slice A (min m 60) c) ∧ w' = w1) := Lib.hid (ecut_any A m c 60 w1 hlc hcm (by omega) hA)
  obtain ⟨mm, hmm⟩ : ∃ mm, mm = min m 60 := ⟨_, rfl⟩
  rw [← hmm] at HCU
  have hmc : mm ≤ c := by omega
  have hcm' : c < 9223372036854775808 := by unfold maxLen at hcm; omega
  have HRT := HRD.out.cutTo (show mm ≤ m by omega)
  have H1 := Lib.hid (owrite_any HF1.out hok hB1 A mm c (bs.take mm) (HRT.more hB1) hmc (by omega) hcm')
  have H2 := Lib.hid (fun w2 (k2 : Kept O1 w1 w2) => rwrite_any (HR2.out w2 k2).1 hok (HR2.out w2 k2).2 (by omega) A mm c (bs.take mm) ((((RdP.of_rd HRT hB1).mono (P' := fun b => ¬ O1 b ∧ ¬ O2 b) fun b _ hb => HNE.out b hb).kept k2 fun b hb => hb.1).mono fun b _ hb => hb.2) hmc (by omega))
  have HLW : Hid ((writeO S (bs.take mm)).ok ∧ (writeO S (bs.take mm)).bs.length ≤ S.bs.length + 60 ∧ S.bs.length + 60 ≤ 800000) := Lib.hid (by
    refine ⟨writeO_ok hok HRT.2.1, ?_, hle⟩
    unfold writeO
    rw [List.length_append, List.length_take, List.length_take]
    omega)
  clear hok hle hA HRT hcm hmm
  go_wp2_with (first
    | (go_at_call 8; (with_reducible refine H1.out.mono ?_); rintro e w2 ⟨rfl, O1', f2, k2, o2⟩; have HF2 := Lib.hid f2; have HK2 := Lib.hid k2; have HQ2 := Lib.hid o2; clear f2 k2 o2)
    | (go_at_call 25; (with_reducible refine (H2.out w2 HK2.out).mono ?_); rintro e w3 ⟨rfl, L', O2', r3, _, k3, o3⟩; have HT := Lib.hid (HFIN.out (writeO S (bs.take mm)) HLW.out.1 (Nat.le_trans HLW.out.2.1 HLW.out.2.2) w2 w3 O1' O2' L' HF2.out HK2.out HQ2.out r3 k3 o3); have HSM := Lib.hid (HSM0.out _ w3 HT.out.1); clear r3 k3 o3)
    | (go_at_call 26; (with_reducible refine HSM.out.mono ?_); rintro e w4 ⟨rfl, hb4⟩; have HB4 := Lib.hid hb4; clear hb4)
    | (go_at_call 11; (with_reducible refine HCU.out.mono ?_); rintro e w9 ⟨rfl, hw9⟩; rw [hw9]; clear hw9))
  go_ret
  exact ⟨by first | rfl | simp, ⟨_, HT.out.1.below HB4.out, by exact HLW.out.2.1⟩, HT.out.2.trans (HB4.out.mono HT.out.1.hB)⟩
end Go.Proofs.Ytoakahofiodbhaa
