/-
  Chapter 14's law: Within, Cut, one call told to both buffers (do).
-/
import Derived.Test.YthgbnknahnaemaaIp
import Derived.Test.YthgbnknahnaemaaIq
import Derived.Test.YthgbnknahnaemaaStrs
import Derived.Test.YthgbnknahnaemaaTk
import Derived.BigQuiet
namespace Go.Proofs.Ythgbnknahnaemaa
set_option linter.unusedVariables false
set_option linter.unusedSimpArgs false
open Go.RowKit
/-- The number from 0 to hi that stands for n. -/
def withN (n : Int) (hi : Nat) : Nat := if 0 ≤ n ∧ n ≤ hi then n.toNat else if n.tmod (hi + 1) < 0 then (n.tmod (hi + 1) + hi + 1).toNat else (n.tmod (hi + 1)).toNat
theorem withN_le (n : Int) (hi : Nat) : withN n hi ≤ hi := by
  have h1 : -((hi : Int) + 1) < n.tmod (hi + 1) := Int.lt_tmod_of_pos n (by omega)
  have h2 : n.tmod (hi + 1) < (hi : Int) + 1 := Int.tmod_lt_of_pos n (by omega)
  unfold withN
  split
  · omega
  · split <;> omega
theorem ret_i64 {a b : Int} (h : a = b) : Ending.returned (.int .i64 a) = Ending.returned (.int .i64 b) := by rw [h]
set_option maxHeartbeats 4000000 in
theorem iwithin_any (n : Int) (hi : Nat) (w : World) (hn : I64 n) (hh : hi ≤ 1000000) : Calls Try.prog 14 #[.int .i64 n, .int .i64 0, .int .i64 hi] w fun e w' => e = .returned (.int .i64 (withN n hi)) ∧ w' = w := by
  obtain ⟨hn0, hn1⟩ := hn
  have h1 : -((hi : Int) + 1) < n.tmod (hi + 1) := Int.lt_tmod_of_pos n (by omega)
  have h2 : n.tmod (hi + 1) < (hi : Int) + 1 := Int.tmod_lt_of_pos n (by omega)
  by_cases hc : 0 ≤ n ∧ n ≤ hi
  · obtain ⟨g1, g2⟩ := hc
    have e : ((withN n hi : Nat) : Int) = n := by
      unfold withN
      rw [if_pos ⟨g1, g2⟩]
      omega
    rw [e]
    go_enter Try.func14, Try.ntmps14
    go_wp2
    go_ret
    exact ⟨rfl, rfl⟩
  · have hz : (hi : Int) - 0 + 1 = (hi : Int) + 1 := by omega
    obtain ⟨H, hH⟩ : ∃ H : Int, (hi : Int) + 1 = H := ⟨_, rfl⟩
    obtain ⟨t, ht⟩ : ∃ t, n.tmod H = t := ⟨_, rfl⟩
    have hH0 : ¬ H = 0 := by omega
    have hHb : 0 < H ∧ H ≤ 1000001 := by omega
    rw [hH, ht] at h1 h2
    have hwH : IntKind.i64.wrap H = H := by rw [IntKind.wrap_i64]; omega
    have hwt : IntKind.i64.wrap t = t := by rw [IntKind.wrap_i64]; omega
    have HE : Hid (((withN n hi : Nat) : Int) = if t < 0 then t + hi + 1 else t) := Lib.hid (by
      unfold withN
      rw [if_neg hc, hH, ht]
      split <;> omega)
    have HH := Lib.hid hH
    have hcase : n < 0 ∨ (¬ n < 0 ∧ hi < n) := by omega
    rcases hcase with g | ⟨g, g'⟩
    · have g0 : ¬ (0 : Int) ≤ n := by omega
      by_cases htn : t < 0
      · have hx : t + (hi : Int) - 0 + 1 = t + hi + 1 := by omega
        go_enter Try.func14, Try.ntmps14
        go_wp2
        go_ret
        exact ⟨ret_i64 (by rw [HE.out, if_pos (by omega)]; try omega), rfl⟩
      · go_enter Try.func14, Try.ntmps14
        go_wp2
        go_ret
        exact ⟨ret_i64 (by rw [HE.out, if_neg (by omega)]; try omega), rfl⟩
    · have g0 : (0 : Int) ≤ n := by omega
      have g1 : ¬ n ≤ (hi : Int) := by omega
      have htn : ¬ t < 0 := by
        have := Int.tmod_nonneg (a := n) H g0
        omega
      go_enter Try.func14, Try.ntmps14
      go_wp2
      go_ret
      exact ⟨ret_i64 (by rw [HE.out, if_neg (by omega)]; try omega), rfl⟩
theorem icut_any (A : Option Addr) (n c m : Nat) (w : World) (hnc : n ≤ c) (hcm : c ≤ maxLen) (hm : m ≤ 1000000) (hA : A = none → c = 0) :
    Calls Try.prog 12 #[.slice A n c, .int .i64 m] w fun e w' => e = .returned (.slice A (min n m) c) ∧ w' = w := by
  have hcm' : c ≤ 9223372036854775807 := by unfold maxLen at hcm; omega
  by_cases h : m < n
  · have hz : (m : Int) < (n : Int) := by omega
    have hmc : (m : Int) ≤ (c : Int) := by omega
    rw [show min n m = m by omega]
    cases A with
    | none => have := hA rfl; omega
    | some ad =>
      clear hA
      go_enter Try.func12, Try.ntmps12
      go_wp2
      go_ret
      exact ⟨rfl, rfl⟩
  · have hz : ¬ (m : Int) < (n : Int) := by omega
    rw [show min n m = n by omega]
    clear hA
    go_enter Try.func12, Try.ntmps12
    go_wp2
    go_ret
    exact ⟨rfl, rfl⟩
theorem bs_beq (s : ByteArray) : (s == s) = true := bb_refl s
/-- What a call told to both leaves. -/
def DPost (B p q : Nat) (w : World) (e : Ending) (w' : World) : Prop := e = .returned (.bool true) ∧ (∃ S', Tb B w' p q S') ∧ Below B w w'
set_option maxHeartbeats 8000000 in
set_option maxRecDepth 100000 in
theorem do14_take (B p q : Nat) (S : BS) (d : AskD) (w : World) (h : Tb B w p q S) (hw : d.wf) (hk1 : d.k = 1) : Calls Try.prog 8 #[.pointer (some ⟨p, 0, none⟩), .pointer (some ⟨q, 0, none⟩), d.v] w (DPost B p q w) := by
  obtain ⟨O1, O2, hf, hr, hd⟩ := h.two
  obtain ⟨kr, hkr1, hkr⟩ := h.ok.ready
  obtain ⟨k, off, size, most, fin, raw, at_, A, n, c, bs⟩ := d
  simp only at hk1
  subst hk1
  have hwm := hw.most
  simp only [I64] at hwm
  unfold AskD.v
  simp only
  obtain ⟨g5, hg5⟩ : ∃ g, w.heap.size = g := ⟨_, rfl⟩
  obtain ⟨w1, hw1⟩ : ∃ x, w.alloc (.cells #[.int .i64 1, .int .i64 off, .int .i64 size, .int .i64 most, .bool fin, .bool raw, .int .u64 at_, .slice A n c] 25) = x := ⟨_, rfl⟩
  have hA1 : At w1 g5 25 [.int .i64 1, .int .i64 off, .int .i64 size, .int .i64 most, .bool fin, .bool raw, .int .u64 at_, .slice A n c] := by rw [← hw1, ← hg5]; exact At.new w _ _
  have hb1 : Below w.heap.size w w1 := by rw [← hw1]; exact (Below.refl _ _).alloc (Nat.le_refl _) _
  have hs1 : w1.heap.size = g5 + 1 := by rw [← hw1, ← hg5]; simp
  have hf1 := hf.below hb1
  have hr1 := hr.below hb1
  have hB1 : B ≤ w1.heap.size := Nat.le_trans h.hB hb1.size
  have a0 : w1.cell? ⟨g5, 0, none⟩ = some (.int .i64 1) := by rw [hA1.cell]; rfl
  have a3 : w1.cell? ⟨g5, 3, none⟩ = some (.int .i64 most) := by rw [hA1.cell]; rfl
  obtain ⟨nn, hnn⟩ : ∃ nn, nn = min most.toNat kr := ⟨_, rfl⟩
  have hnk : nn ≤ kr := by omega
  have HT := Lib.hid (itake_any B p O1 S most w1 hf1 h.ok hB1 hwm kr hkr)
  rw [← hnn] at HT
  have HR : Hid (∀ (w2 : World), Kept O1 w1 w2 → B ≤ w2.heap.size → Calls Try.prog 19 #[.pointer (some ⟨q, 0, none⟩), .int .i64 most] w2 (RTPost B q O2 S nn w2)) := Lib.hid (fun w2 k2 h2 => by
    have := rtake_any' B q O2 S most w2 (hr1.kept k2 (fun b hb hb' => hd b hb' hb)) h.ok h2 hwm kr hkr
    rw [← hnn] at this
    exact this)
  have hlt1 := hf.lt
  have hlt2 := hr.lt
  have HG : Hid (¬ O1 g5 ∧ ¬ O2 g5) := Lib.hid ⟨fun e => by have := (hlt1 g5 e).2; omega, fun e => by have := (hlt2 g5 e).2; omega⟩
  have HFIN : Hid (∀ (w2 w3 : World) (O1' O2' : Nat → Prop), Bf w2 B p O1' (takeS S nn) → Kept O1 w1 w2 → (∀ j, O1' j → O1 j ∨ w1.heap.size ≤ j) → Rb w3 B q O2' (takeS S nn) → Kept O2 w2 w3 → (∀ j, O2' j → O2 j ∨ w2.heap.size ≤ j) → Tb B w3 p q (takeS S nn) ∧ Below B w w3) := Lib.hid (by
    intro w2 w3 O1' O2' f2 k2 o2 r3 k3 o3
    have dj : ∀ j, O1' j → ¬ O2 j := fun j hj e => (o2 j hj).elim (fun h => hd j h e) fun h' => by have := (hlt2 j e).2; have := hb1.size; omega
    refine ⟨⟨takeS_ok h.ok hkr hnk, ⟨O1', O2', f2.kept k3 (fun b hb e => dj b hb e), r3, fun j hj e => (o3 j e).elim (dj j hj) fun h' => by have := (f2.lt j hj).2; omega⟩, by have := k2.size; have := k3.size; omega⟩, ?_⟩
    exact k3.below (k2.below (hb1.mono h.hB) hB1 (fun j hj => (hlt1 j hj).1)) (by have := k2.size; omega) (fun j hj => (hlt2 j hj).1))
  have HV : Hid (∀ (w2 w3 : World) (v : Value) (bs : List Int), Own w2 w1.heap.size 5 v bs → Kept O2 w2 w3 → Own w3 w1.heap.size 5 v bs) := Lib.hid (fun w2 w3 v bs ho k3 => ho.kept k3 fun j hj e => by have := (hlt2 j e).2; have := (ho.block_lt j hj).1; have := hb1.size; omega)
  have HBZ : Hid (B ≤ w1.heap.size) := Lib.hid hB1
  clear hlt1 hlt2 hf hr hf1 hr1 hd h hkr hb1 hB1 hnn
  obtain ⟨out, hout⟩ : ∃ out, outB S.g S.rd nn = out := ⟨_, rfl⟩
  have hlo : out.length = nn := by rw [← hout, outB_len]
  have HLO := Lib.hid hlo
  have HOUT := Lib.hid hout
  clear hlo hout
  obtain ⟨fb, hfb⟩ : ∃ b, (S.en && decide (S.rd + nn = S.fi)) = b := ⟨_, rfl⟩
  have HFB := Lib.hid hfb
  clear hfb
  have hbb := bs_beq (strOfNums out)
  go_enter Try.func8, Try.ntmps8
  go_upto_region 1 with fail
  (try rw [hg5])
  (try rw [hw1])
  go_wp2_with (first
    | (go_at_call 13; (with_reducible refine HT.out.mono ?_); rintro e w2 ⟨v, rfl, ho2, O1', f2, k2, o2⟩; rw [HOUT.out] at ho2; rw [HFB.out]; obtain ⟨A2, c2, rfl, _, _, _⟩ := ho2.open_n nn HLO.out; have e3 : w2.cell? ⟨g5, 3, none⟩ = some (.int .i64 most) := (k2.cell (p := ⟨g5, 3, none⟩) hA1.lt HG.out.1).trans a3; have HO2 := Lib.hid ho2; have HF2 := Lib.hid f2; have HK2 := Lib.hid k2; have HQ2 := Lib.hid o2; have HM := Lib.hid (HR.out w2 k2 (Nat.le_trans HBZ.out k2.size)); clear ho2 f2 k2 o2)
    | (go_at_call 19; (with_reducible refine HM.out.mono ?_); rintro e w3 ⟨v', rfl, ho3, O2', r3, k3, o3⟩; rw [HOUT.out] at ho3; rw [HFB.out]; obtain ⟨A3, c3, rfl, _, _, _⟩ := ho3.open_n nn HLO.out; have hv := HV.out w2 w3 _ _ HO2.out k3; have HX := Lib.hid (HFIN.out w2 w3 O1' O2' HF2.out HK2.out HQ2.out r3 k3 o3); obtain ⟨A4, c4, e4, _, _, hr4⟩ := hv.open_n nn HLO.out; injection e4 with e41 _ e43; subst e41; subst e43; obtain ⟨A5, c5, e5, _, _, hr5⟩ := ho3.open_n nn HLO.out; injection e5 with e51 _ e53; subst e51; subst e53; have t1 := run_text (P := Try.prog) (c := c2) hr4 22 5 9 Try.underlying22 Try.underlying5 Try.underlying9; have t2 := run_text (P := Try.prog) (c := c3) hr5 22 5 9 Try.underlying22 Try.underlying5 Try.underlying9; have HSM := Lib.hid (same14_any B p q (takeS S nn) w3 HX.out.1); clear r3 k3 o3 ho3 hv hr4 hr5)
    | (go_at_call 20; (with_reducible refine HSM.out.mono ?_); rintro e w4 ⟨rfl, hb4⟩; have HB4 := Lib.hid hb4; clear hb4))
  go_ret
  exact ⟨by first | rfl | simp, ⟨_, HX.out.1.below HB4.out⟩, HX.out.2.trans (HB4.out.mono HX.out.1.hB)⟩
theorem do_fin {B p q : Nat} {S : BS} {Y w6 w7 : World} {O1 O2 O1' O2' : Nat → Prop} {off n : Nat} {bs : List Int} {fin : Bool} (ok' : (addR S off bs fin).ok) (f : Bf Y B p O1 S) (r : Rb Y B q O2 S) (hd : ∀ j, O1 j → ¬ O2 j) (hB : B ≤ Y.heap.size)
    (f6 : Bf w6 B p O1' (addR S off bs fin)) (k6 : Kept O1 Y w6) (o6 : ∀ j, O1' j → O1 j ∨ Y.heap.size ≤ j) (r7 : Rb w7 B q O2' (addR S off bs fin)) (k7 : Kept O2 w6 w7) (o7 : ∀ j, O2' j → O2 j ∨ w6.heap.size ≤ j) :
    Tb B w7 p q (addR S off bs fin) ∧ Below B Y w7 := by
  have dj : ∀ j, O1' j → ¬ O2 j := fun j hj e => (o6 j hj).elim (fun h => hd j h e) fun h' => by have := (r.lt j e).2; omega
  have s6 := k6.size
  have s7 := k7.size
  refine ⟨⟨ok', ⟨O1', O2', f6.kept k7 (fun b hb e => dj b hb e), r7, fun j hj e => (o7 j e).elim (dj j hj) fun h' => by have := (f6.lt j hj).2; omega⟩, by omega⟩, ?_⟩
  exact k7.below (k6.below (Below.refl _ _) hB (fun j hj => (f.lt j hj).1)) (by omega) (fun j hj => (r.lt j hj).1)
theorem addR_ok {S : BS} (h : S.ok) {off : Nat} {bs : List Int} (fin : Bool) (hb : Byt bs) : (addR S off bs fin).ok := by
  unfold addR
  split
  · rename_i he
    unfold addE at he
    split at he
    · cases he
    · split at he
      · cases he
      · split at he
        · cases he
        · exact addS_ok h fin hb (by omega) (by omega) (by omega)
  · exact h
set_option maxHeartbeats 16000000 in
set_option maxRecDepth 100000 in
theorem do14_add (B p q : Nat) (S : BS) (d : AskD) (w : World) (h : Tb B w p q S) (hw : d.wf) (hrd : Rd w B d.A d.n d.bs) (hk1 : d.k ≠ 1) : Calls Try.prog 8 #[.pointer (some ⟨p, 0, none⟩), .pointer (some ⟨q, 0, none⟩), d.v] w (DPost B p q w) := by
  obtain ⟨O1, O2, hf, hr, hd⟩ := h.two
  obtain ⟨k, off, size, most, fin, raw, at_, A, n, c, bs⟩ := d
  have hok := h.ok
  have hwo := hw.off
  have hwa0 := hw.at0
  have hwa1 := hw.at1
  have hnc := hw.lc
  have hcm := hw.cm
  have hA := hw.nil
  simp only at hk1 hwo hwa0 hwa1 hnc hcm hA hrd
  obtain ⟨an, rfl⟩ : ∃ an : Nat, at_ = (an : Int) := ⟨at_.toNat, by omega⟩
  have HAN : Hid (an < 18446744073709551616) := Lib.hid (by omega)
  unfold AskD.v
  simp only
  clear hw hwa0 hwa1
  obtain ⟨g5, hg5⟩ : ∃ g, w.heap.size = g := ⟨_, rfl⟩
  obtain ⟨w1, hw1⟩ : ∃ x, w.alloc (.cells #[.int .i64 k, .int .i64 off, .int .i64 size, .int .i64 most, .bool fin, .bool raw, .int .u64 an, .slice A n c] 25) = x := ⟨_, rfl⟩
  have hA1 : At w1 g5 25 [.int .i64 k, .int .i64 off, .int .i64 size, .int .i64 most, .bool fin, .bool raw, .int .u64 an, .slice A n c] := by rw [← hw1, ← hg5]; exact At.new w _ _
  have hb1 : Below w.heap.size w w1 := by rw [← hw1]; exact (Below.refl _ _).alloc (Nat.le_refl _) _
  have hlt1 := hf.lt
  have hlt2 := hr.lt
  have HG : Hid (¬ O1 g5 ∧ ¬ O2 g5) := Lib.hid ⟨fun e => by have := (hlt1 g5 e).2; omega, fun e => by have := (hlt2 g5 e).2; omega⟩
  have hf1 := hf.below hb1
  have hr1 := hr.below hb1
  have hB1 : B ≤ w1.heap.size := Nat.le_trans h.hB hb1.size
  have hrd1 := hrd.below (hb1.mono h.hB)
  have hbB1 := hb1.mono h.hB
  have a0 : w1.cell? ⟨g5, 0, none⟩ = some (.int .i64 k) := by rw [hA1.cell]; rfl
  have a1 : w1.cell? ⟨g5, 1, none⟩ = some (.int .i64 off) := by rw [hA1.cell]; rfl
  have a4 : w1.cell? ⟨g5, 4, none⟩ = some (.bool fin) := by rw [hA1.cell]; rfl
  have a5 : w1.cell? ⟨g5, 5, none⟩ = some (.bool raw) := by rw [hA1.cell]; rfl
  have a6 : w1.cell? ⟨g5, 6, none⟩ = some (.int .u64 an) := by rw [hA1.cell]; rfl
  have a7 : w1.cell? ⟨g5, 7, none⟩ = some (.slice A n c) := by rw [hA1.cell]; rfl
  have HWI : Hid (∀ j, Calls Try.prog 14 #[.int .i64 off, .int .i64 0, .int .i64 300] (w1.drewN j) fun e w'' => e = .returned (.int .i64 (withN off 300)) ∧ ∃ m, w'' = w1.drewN m) := Lib.hid (fun j => Calls.quiet_of_same (iwithin_any off 300 (w1.drewN j) hwo (by omega)))
  have HCU : Hid (∀ j, Calls Try.prog 12 #[.slice A n c, .int .i64 40] (w1.drewN j) fun e w'' => e = .returned (.slice A (min n 40) c) ∧ ∃ m, w'' = w1.drewN m) := Lib.hid (fun j => Calls.quiet_of_same (icut_any A n c 40 (w1.drewN j) hnc hcm (by omega) hA))
  have hwl := withN_le off 300
  obtain ⟨WN, hWN⟩ : ∃ x, withN off 300 = x := ⟨_, rfl⟩
  rw [hWN] at hwl HWI
  obtain ⟨m, hm⟩ : ∃ m, min n 40 = m := ⟨_, rfl⟩
  rw [hm] at HCU
  have hmn : m ≤ n := by omega
  have hm40 : m ≤ 40 := by omega
  have hbt : Byt (bs.take m) := hrd.2.1.take m
  have HBT := Lib.hid hbt
  have HPRE : Hid (∀ j, Bf (w1.drewN j) B p O1 S ∧ Rb (w1.drewN j) B q O2 S ∧ Rd (w1.drewN j) B A m (bs.take m) ∧ At (w1.drewN j) g5 25 [.int .i64 k, .int .i64 off, .int .i64 size, .int .i64 most, .bool fin, .bool raw, .int .u64 an, .slice A n c] ∧ B ≤ (w1.drewN j).heap.size ∧ Below B w (w1.drewN j)) := Lib.hid (fun j => ⟨hf1.drewN j, hr1.drewN j, (hrd1.cutTo hmn).drewN j, hA1.drewN j, hB1, ⟨hbB1.os, hbB1.tape, hbB1.output, hbB1.size, hbB1.block⟩⟩)
  have hmc : m ≤ c := by omega
  have hwWN : IntKind.u64.wrap (WN : Int) = (WN : Int) := by rw [IntKind.wrap_u64]; omega
  have hkk : ¬ k = 1 := hk1
  have HD := Lib.hid hd
  clear hf hr hf1 hr1 hrd hrd1 hbB1 hB1 hb1 h hlt1 hlt2 hWN hm hbt hA hk1
  cases raw
  · go_enter Try.func8, Try.ntmps8
    go_upto_region 1 with fail
    (try rw [hg5])
    (try rw [hw1])
    go_wp2_with fail
    go_quiet (first | (go_at_call 14; (with_reducible exact HWI.out _)) | (go_at_call 12; (with_reducible exact HCU.out _)))
    generalize hWW : World.drewN w1 _ = W2
    obtain ⟨j, hj⟩ : ∃ j, W2 = w1.drewN j := ⟨_, hWW.symm⟩
    clear hWW
    have hpre := HPRE.out j
    rw [← hj] at hpre
    obtain ⟨f2, r2, d2, A2, hB2, bl2⟩ := hpre
    clear hj HPRE a0 a1 a4 a5 a6 a7 hA1
    have a4 : W2.cell? ⟨g5, 4, none⟩ = some (.bool fin) := by rw [A2.cell]; rfl
    have a5 : W2.cell? ⟨g5, 5, none⟩ = some (.bool false) := by rw [A2.cell]; rfl
    have a6 : W2.cell? ⟨g5, 6, none⟩ = some (.int .u64 an) := by rw [A2.cell]; rfl
    go_wp2_with fail
    clear a5 a6
    have f3 := f2.drewN 1
    have r3 := r2.drewN 1
    have d3 := d2.drewN 1
    have A3 := A2.drewN 1
    have bl3 : Below B w (W2.drewN 1) := ⟨bl2.os, bl2.tape, bl2.output, bl2.size, bl2.block⟩
    have hB3 : B ≤ (W2.drewN 1).heap.size := hB2
    have hdrew : W2.drewN 1 = W2.drew := rfl
    rw [hdrew] at f3 r3 d3 A3 bl3 hB3
    clear f2 r2 d2 A2 bl2 hB2 a4 hdrew
    generalize hYY : W2.drew = Y at *
    have a4 : Y.cell? ⟨g5, 4, none⟩ = some (.bool fin) := by rw [A3.cell]; rfl
    have H1 := Lib.hid (iadd_any B p O1 S WN A m c (bs.take m) fin Y f3 hok hB3 ((RdP.of_rd d3 hB3).mono fun b _ hb e => by have := (f3.lt b e).1; omega) hmc (by have := HAN.out; omega) (by omega))
    have H2 : Hid (∀ w6, Kept O1 Y w6 → Calls Try.prog 21 #[.pointer (some ⟨q, 0, none⟩), .int .u64 WN, .slice A m c, .bool fin] w6 (RPost (.int .i64 (addE S WN m fin)) B q O2 (addR S WN (bs.take m) fin) w6)) := Lib.hid (fun w6 k6 => radd14_any B q O2 S WN A m c (bs.take m) fin w6 (r3.kept k6 (fun b hb e => HD.out b e hb)) hok (Nat.le_trans hB3 k6.size) ((RdP.of_rd (d3.below (k6.below (Below.refl _ _) hB3 (fun j hj => (f3.lt j hj).1))) (Nat.le_trans hB3 k6.size)).mono fun b _ hb e => by have := (r3.lt b e).1; omega) hmc (by have := HAN.out; omega) (by omega))
    have H3 := Lib.hid (fun w6 w7 O1' O2' (f6 : Bf w6 B p O1' (addR S WN (bs.take m) fin)) k6 o6 (r7 : Rb w7 B q O2' (addR S WN (bs.take m) fin)) k7 o7 => do_fin (n := m) (addR_ok hok fin HBT.out) f3 r3 HD.out hB3 f6 k6 o6 r7 k7 o7)
    have HA3 := Lib.hid A3
    have HBL := Lib.hid bl3
    obtain ⟨er, her⟩ : ∃ er, addE S WN m fin = er := ⟨_, rfl⟩
    rw [her] at H1 H2
    clear f3 r3 d3 A3 bl3 her hok
    refine wp_region_held_drew (S := (fun W => W.cell? ⟨g5, 4, none⟩ = some (.bool fin))) (by kernel_rfl) (by rw [hYY]; exact a4) (fun hHeld => ?_)
    rw [hYY]
    refine tkq 0 (some 56) (v := ?_) rfl (Or.inl ⟨by rfl, ?_⟩) (by assumption) ?_
    rotate_left
    · intro w hSw; (try dsimp only at hSw); go_simp; first | done | (with_reducible rfl)
    simp only [Act.put, List.setIfInBounds_toArray, List.set_cons_zero, List.set_cons_succ]
    refine tkq 1 (some 57) (v := ?_) rfl (Or.inl ⟨by rfl, ?_⟩) (by assumption) ?_
    rotate_left
    · intro w hSw; (try dsimp only at hSw); go_simp; first | done | (with_reducible rfl)
    simp only [Act.put, List.setIfInBounds_toArray, List.set_cons_zero, List.set_cons_succ]
    refine tkq 2 (some 58) (v := ?_) rfl (Or.inl ⟨by rfl, ?_⟩) (by assumption) ?_
    rotate_left
    · intro w hSw; (try dsimp only at hSw); go_simp; first | done | (with_reducible rfl)
    simp only [Act.put, List.setIfInBounds_toArray, List.set_cons_zero, List.set_cons_succ]
    refine tkq 3 (some 59) (v := ?_) rfl (Or.inl ⟨by rfl, ?_⟩) (by assumption) ?_
    rotate_left
    · intro w hSw; (try dsimp only at hSw); go_simp; first | done | (with_reducible rfl)
    simp only [Act.put, List.setIfInBounds_toArray, List.set_cons_zero, List.set_cons_succ]
    refine tkq 4 (some 60) (v := ?_) rfl (Or.inl ⟨by rfl, ?_⟩) (by assumption) ?_
    rotate_left
    · intro w hSw; (try dsimp only at hSw); go_simp; first | done | (with_reducible rfl)
    simp only [Act.put, List.setIfInBounds_toArray, List.set_cons_zero, List.set_cons_succ]
    refine tkq 6 (some 62) (v := ?_) rfl (Or.inl ⟨by rfl, ?_⟩) (by assumption) ?_
    rotate_left
    · intro w hSw; (try dsimp only at hSw); go_simp; first | done | (with_reducible rfl)
    simp only [Act.put, List.setIfInBounds_toArray, List.set_cons_zero, List.set_cons_succ]
    refine tkq 7 (some 63) (v := ?_) rfl (Or.inl ⟨by rfl, ?_⟩) (by assumption) ?_
    rotate_left
    · intro w hSw; (try dsimp only at hSw); go_simp; first | done | (with_reducible rfl)
    simp only [Act.put, List.setIfInBounds_toArray, List.set_cons_zero, List.set_cons_succ]
    refine tkq 8 (some 64) (v := ?_) rfl (Or.inl ⟨by rfl, ?_⟩) (by assumption) ?_
    rotate_left
    · intro w hSw; (try dsimp only at hSw); go_simp; first | done | (with_reducible rfl)
    simp only [Act.put, List.setIfInBounds_toArray, List.set_cons_zero, List.set_cons_succ]
    refine tkq 9 (some 65) (v := ?_) rfl (Or.inl ⟨by rfl, ?_⟩) (by assumption) ?_
    rotate_left
    · intro w hSw; (try dsimp only at hSw); go_simp; first | done | (with_reducible rfl)
    simp only [Act.put, List.setIfInBounds_toArray, List.set_cons_zero, List.set_cons_succ]
    refine tkq 10 (some 66) (v := ?_) rfl (Or.inl ⟨by rfl, ?_⟩) (by assumption) ?_
    rotate_left
    · intro w hSw; (try dsimp only at hSw); go_simp; first | done | (with_reducible rfl)
    simp only [Act.put, List.setIfInBounds_toArray, List.set_cons_zero, List.set_cons_succ]
    refine wpAnyH_ready (rs := [5]) (by kernel_rfl) (by simp) ?_
    refine AllReadyH.cons rfl (fun K hK => ?_) AllReadyH.nil
    go_simp
    go_wp2_with (go_at_call 9; (with_reducible refine H1.out.mono ?_); rintro e w6 ⟨rfl, O1', hf6, hk6, ho6⟩)
    have g4 := (hk6.cell (p := ⟨g5, 4, none⟩) HA3.out.lt HG.out.1).trans a4
    have hA6 := HA3.out.kept hk6 HG.out.1
    refine hK.out _ _ (g4) (fun hHeld => ?_)
    clear hK K
    refine wpAnyH_ready (rs := [11]) (by kernel_rfl) (by simp) ?_
    refine AllReadyH.cons rfl (fun K hK => ?_) AllReadyH.nil
    go_simp
    go_wp2_with (go_at_call 21; (with_reducible refine (H2.out w6 hk6).mono ?_); rintro e w7 ⟨rfl, O2', hr7, hk7, ho7⟩)
    have g7 := (hk7.cell (p := ⟨g5, 4, none⟩) hA6.lt HG.out.2).trans g4
    have HT := Lib.hid (H3.out w6 w7 O1' O2' hf6 hk6 ho6 hr7 hk7 ho7)
    have HSM := Lib.hid (same14_any B p q _ w7 HT.out.1)
    have hA7 := hA6.kept hk7 HG.out.2
    refine hK.out _ _ (g7) (fun hHeld => ?_)
    clear hK K
    refine tkq 12 (some 68) (v := ?_) rfl (Or.inl ⟨by rfl, ?_⟩) (by assumption) ?_
    rotate_left
    · intro w hSw; (try dsimp only at hSw); go_simp; first | done | (with_reducible rfl)
    simp only [Act.put, List.setIfInBounds_toArray, List.set_cons_zero, List.set_cons_succ]
    refine tkq 13 (some 69) (v := ?_) rfl (Or.inl ⟨by rfl, ?_⟩) (by assumption) ?_
    rotate_left
    · intro w hSw; (try dsimp only at hSw); go_simp; first | done | (with_reducible rfl)
    simp only [Act.put, List.setIfInBounds_toArray, List.set_cons_zero, List.set_cons_succ]
    refine tkq 14 (some 70) (v := ?_) rfl (Or.inl ⟨by rfl, ?_⟩) (by assumption) ?_
    rotate_left
    · intro w hSw; (try dsimp only at hSw); go_simp; first | done | (with_reducible rfl)
    simp only [Act.put, List.setIfInBounds_toArray, List.set_cons_zero, List.set_cons_succ]
    refine tkq 15 (some 71) (v := ?_) rfl (Or.inl ⟨by rfl, ?_⟩) (by assumption) ?_
    rotate_left
    · intro w hSw; (try dsimp only at hSw); go_simp; first | done | (with_reducible rfl)
    simp only [Act.put, List.setIfInBounds_toArray, List.set_cons_zero, List.set_cons_succ]
    refine wpAnyH_ready (rs := [16]) (by kernel_rfl) (by simp) ?_
    refine AllReadyH.cons rfl (fun K hK => ?_) AllReadyH.nil
    go_simp
    go_wp2_with (go_at_call 20; (with_reducible refine HSM.out.mono ?_); rintro e w8 ⟨rfl, hb8⟩)
    have g8 := (hb8.cell (p := ⟨g5, 4, none⟩) hA7.lt).trans g7
    refine hK.out _ _ (g8) (fun hHeld => ?_)
    clear hK K
    refine tkq 17 (some 73) (v := ?_) rfl (Or.inl ⟨by rfl, ?_⟩) (by assumption) ?_
    rotate_left
    · intro w hSw; (try dsimp only at hSw); go_simp; first | done | (with_reducible rfl)
    simp only [Act.put, List.setIfInBounds_toArray, List.set_cons_zero, List.set_cons_succ]
    refine tkq 18 (some 6) (v := ?_) rfl (Or.inl ⟨by rfl, ?_⟩) (by assumption) ?_
    rotate_left
    · intro w hSw; (try dsimp only at hSw); go_simp; first | done | (with_reducible rfl)
    simp only [Act.put, List.setIfInBounds_toArray, List.set_cons_zero, List.set_cons_succ]
    refine wpAnyH_done (by kernel_rfl) ?_ _
    go_wp2
    go_ret
    exact ⟨by first | rfl | simp, ⟨_, HT.out.1.below hb8⟩, HBL.out.trans (HT.out.2.trans (hb8.mono HT.out.1.hB))⟩
  · go_enter Try.func8, Try.ntmps8
    go_upto_region 1 with fail
    (try rw [hg5])
    (try rw [hw1])
    go_wp2_with fail
    go_quiet (first | (go_at_call 14; (with_reducible exact HWI.out _)) | (go_at_call 12; (with_reducible exact HCU.out _)))
    generalize hWW : World.drewN w1 _ = W2
    obtain ⟨j, hj⟩ : ∃ j, W2 = w1.drewN j := ⟨_, hWW.symm⟩
    clear hWW
    have hpre := HPRE.out j
    rw [← hj] at hpre
    obtain ⟨f2, r2, d2, A2, hB2, bl2⟩ := hpre
    clear hj HPRE a0 a1 a4 a5 a6 a7 hA1
    have a4 : W2.cell? ⟨g5, 4, none⟩ = some (.bool fin) := by rw [A2.cell]; rfl
    have a5 : W2.cell? ⟨g5, 5, none⟩ = some (.bool true) := by rw [A2.cell]; rfl
    have a6 : W2.cell? ⟨g5, 6, none⟩ = some (.int .u64 an) := by rw [A2.cell]; rfl
    go_wp2_with fail
    clear a5 a6
    have f3 := f2.drewN 1
    have r3 := r2.drewN 1
    have d3 := d2.drewN 1
    have A3 := A2.drewN 1
    have bl3 : Below B w (W2.drewN 1) := ⟨bl2.os, bl2.tape, bl2.output, bl2.size, bl2.block⟩
    have hB3 : B ≤ (W2.drewN 1).heap.size := hB2
    have hdrew : W2.drewN 1 = W2.drew := rfl
    rw [hdrew] at f3 r3 d3 A3 bl3 hB3
    clear f2 r2 d2 A2 bl2 hB2 a4 hdrew
    generalize hYY : W2.drew = Y at *
    have a4 : Y.cell? ⟨g5, 4, none⟩ = some (.bool fin) := by rw [A3.cell]; rfl
    have H1 := Lib.hid (iadd_any B p O1 S an A m c (bs.take m) fin Y f3 hok hB3 ((RdP.of_rd d3 hB3).mono fun b _ hb e => by have := (f3.lt b e).1; omega) hmc (by have := HAN.out; omega) (by omega))
    have H2 : Hid (∀ w6, Kept O1 Y w6 → Calls Try.prog 21 #[.pointer (some ⟨q, 0, none⟩), .int .u64 an, .slice A m c, .bool fin] w6 (RPost (.int .i64 (addE S an m fin)) B q O2 (addR S an (bs.take m) fin) w6)) := Lib.hid (fun w6 k6 => radd14_any B q O2 S an A m c (bs.take m) fin w6 (r3.kept k6 (fun b hb e => HD.out b e hb)) hok (Nat.le_trans hB3 k6.size) ((RdP.of_rd (d3.below (k6.below (Below.refl _ _) hB3 (fun j hj => (f3.lt j hj).1))) (Nat.le_trans hB3 k6.size)).mono fun b _ hb e => by have := (r3.lt b e).1; omega) hmc (by have := HAN.out; omega) (by omega))
    have H3 := Lib.hid (fun w6 w7 O1' O2' (f6 : Bf w6 B p O1' (addR S an (bs.take m) fin)) k6 o6 (r7 : Rb w7 B q O2' (addR S an (bs.take m) fin)) k7 o7 => do_fin (n := m) (addR_ok hok fin HBT.out) f3 r3 HD.out hB3 f6 k6 o6 r7 k7 o7)
    have HA3 := Lib.hid A3
    have HBL := Lib.hid bl3
    obtain ⟨er, her⟩ : ∃ er, addE S an m fin = er := ⟨_, rfl⟩
    rw [her] at H1 H2
    clear f3 r3 d3 A3 bl3 her hok
    refine wp_region_held_drew (S := (fun W => W.cell? ⟨g5, 4, none⟩ = some (.bool fin))) (by kernel_rfl) (by rw [hYY]; exact a4) (fun hHeld => ?_)
    rw [hYY]
    refine tkq 0 (some 56) (v := ?_) rfl (Or.inl ⟨by rfl, ?_⟩) (by assumption) ?_
    rotate_left
    · intro w hSw; (try dsimp only at hSw); go_simp; first | done | (with_reducible rfl)
    simp only [Act.put, List.setIfInBounds_toArray, List.set_cons_zero, List.set_cons_succ]
    refine tkq 1 (some 57) (v := ?_) rfl (Or.inl ⟨by rfl, ?_⟩) (by assumption) ?_
    rotate_left
    · intro w hSw; (try dsimp only at hSw); go_simp; first | done | (with_reducible rfl)
    simp only [Act.put, List.setIfInBounds_toArray, List.set_cons_zero, List.set_cons_succ]
    refine tkq 2 (some 58) (v := ?_) rfl (Or.inl ⟨by rfl, ?_⟩) (by assumption) ?_
    rotate_left
    · intro w hSw; (try dsimp only at hSw); go_simp; first | done | (with_reducible rfl)
    simp only [Act.put, List.setIfInBounds_toArray, List.set_cons_zero, List.set_cons_succ]
    refine tkq 3 (some 59) (v := ?_) rfl (Or.inl ⟨by rfl, ?_⟩) (by assumption) ?_
    rotate_left
    · intro w hSw; (try dsimp only at hSw); go_simp; first | done | (with_reducible rfl)
    simp only [Act.put, List.setIfInBounds_toArray, List.set_cons_zero, List.set_cons_succ]
    refine tkq 4 (some 60) (v := ?_) rfl (Or.inl ⟨by rfl, ?_⟩) (by assumption) ?_
    rotate_left
    · intro w hSw; (try dsimp only at hSw); go_simp; first | done | (with_reducible rfl)
    simp only [Act.put, List.setIfInBounds_toArray, List.set_cons_zero, List.set_cons_succ]
    refine tkq 6 (some 62) (v := ?_) rfl (Or.inl ⟨by rfl, ?_⟩) (by assumption) ?_
    rotate_left
    · intro w hSw; (try dsimp only at hSw); go_simp; first | done | (with_reducible rfl)
    simp only [Act.put, List.setIfInBounds_toArray, List.set_cons_zero, List.set_cons_succ]
    refine tkq 7 (some 63) (v := ?_) rfl (Or.inl ⟨by rfl, ?_⟩) (by assumption) ?_
    rotate_left
    · intro w hSw; (try dsimp only at hSw); go_simp; first | done | (with_reducible rfl)
    simp only [Act.put, List.setIfInBounds_toArray, List.set_cons_zero, List.set_cons_succ]
    refine tkq 8 (some 64) (v := ?_) rfl (Or.inl ⟨by rfl, ?_⟩) (by assumption) ?_
    rotate_left
    · intro w hSw; (try dsimp only at hSw); go_simp; first | done | (with_reducible rfl)
    simp only [Act.put, List.setIfInBounds_toArray, List.set_cons_zero, List.set_cons_succ]
    refine tkq 9 (some 65) (v := ?_) rfl (Or.inl ⟨by rfl, ?_⟩) (by assumption) ?_
    rotate_left
    · intro w hSw; (try dsimp only at hSw); go_simp; first | done | (with_reducible rfl)
    simp only [Act.put, List.setIfInBounds_toArray, List.set_cons_zero, List.set_cons_succ]
    refine tkq 10 (some 66) (v := ?_) rfl (Or.inl ⟨by rfl, ?_⟩) (by assumption) ?_
    rotate_left
    · intro w hSw; (try dsimp only at hSw); go_simp; first | done | (with_reducible rfl)
    simp only [Act.put, List.setIfInBounds_toArray, List.set_cons_zero, List.set_cons_succ]
    refine wpAnyH_ready (rs := [5]) (by kernel_rfl) (by simp) ?_
    refine AllReadyH.cons rfl (fun K hK => ?_) AllReadyH.nil
    go_simp
    go_wp2_with (go_at_call 9; (with_reducible refine H1.out.mono ?_); rintro e w6 ⟨rfl, O1', hf6, hk6, ho6⟩)
    have g4 := (hk6.cell (p := ⟨g5, 4, none⟩) HA3.out.lt HG.out.1).trans a4
    have hA6 := HA3.out.kept hk6 HG.out.1
    refine hK.out _ _ (g4) (fun hHeld => ?_)
    clear hK K
    refine wpAnyH_ready (rs := [11]) (by kernel_rfl) (by simp) ?_
    refine AllReadyH.cons rfl (fun K hK => ?_) AllReadyH.nil
    go_simp
    go_wp2_with (go_at_call 21; (with_reducible refine (H2.out w6 hk6).mono ?_); rintro e w7 ⟨rfl, O2', hr7, hk7, ho7⟩)
    have g7 := (hk7.cell (p := ⟨g5, 4, none⟩) hA6.lt HG.out.2).trans g4
    have HT := Lib.hid (H3.out w6 w7 O1' O2' hf6 hk6 ho6 hr7 hk7 ho7)
    have HSM := Lib.hid (same14_any B p q _ w7 HT.out.1)
    have hA7 := hA6.kept hk7 HG.out.2
    refine hK.out _ _ (g7) (fun hHeld => ?_)
    clear hK K
    refine tkq 12 (some 68) (v := ?_) rfl (Or.inl ⟨by rfl, ?_⟩) (by assumption) ?_
    rotate_left
    · intro w hSw; (try dsimp only at hSw); go_simp; first | done | (with_reducible rfl)
    simp only [Act.put, List.setIfInBounds_toArray, List.set_cons_zero, List.set_cons_succ]
    refine tkq 13 (some 69) (v := ?_) rfl (Or.inl ⟨by rfl, ?_⟩) (by assumption) ?_
    rotate_left
    · intro w hSw; (try dsimp only at hSw); go_simp; first | done | (with_reducible rfl)
    simp only [Act.put, List.setIfInBounds_toArray, List.set_cons_zero, List.set_cons_succ]
    refine tkq 14 (some 70) (v := ?_) rfl (Or.inl ⟨by rfl, ?_⟩) (by assumption) ?_
    rotate_left
    · intro w hSw; (try dsimp only at hSw); go_simp; first | done | (with_reducible rfl)
    simp only [Act.put, List.setIfInBounds_toArray, List.set_cons_zero, List.set_cons_succ]
    refine tkq 15 (some 71) (v := ?_) rfl (Or.inl ⟨by rfl, ?_⟩) (by assumption) ?_
    rotate_left
    · intro w hSw; (try dsimp only at hSw); go_simp; first | done | (with_reducible rfl)
    simp only [Act.put, List.setIfInBounds_toArray, List.set_cons_zero, List.set_cons_succ]
    refine wpAnyH_ready (rs := [16]) (by kernel_rfl) (by simp) ?_
    refine AllReadyH.cons rfl (fun K hK => ?_) AllReadyH.nil
    go_simp
    go_wp2_with (go_at_call 20; (with_reducible refine HSM.out.mono ?_); rintro e w8 ⟨rfl, hb8⟩)
    have g8 := (hb8.cell (p := ⟨g5, 4, none⟩) hA7.lt).trans g7
    refine hK.out _ _ (g8) (fun hHeld => ?_)
    clear hK K
    refine tkq 17 (some 73) (v := ?_) rfl (Or.inl ⟨by rfl, ?_⟩) (by assumption) ?_
    rotate_left
    · intro w hSw; (try dsimp only at hSw); go_simp; first | done | (with_reducible rfl)
    simp only [Act.put, List.setIfInBounds_toArray, List.set_cons_zero, List.set_cons_succ]
    refine tkq 18 (some 6) (v := ?_) rfl (Or.inl ⟨by rfl, ?_⟩) (by assumption) ?_
    rotate_left
    · intro w hSw; (try dsimp only at hSw); go_simp; first | done | (with_reducible rfl)
    simp only [Act.put, List.setIfInBounds_toArray, List.set_cons_zero, List.set_cons_succ]
    refine wpAnyH_done (by kernel_rfl) ?_ _
    go_wp2
    go_ret
    exact ⟨by first | rfl | simp, ⟨_, HT.out.1.below hb8⟩, HBL.out.trans (HT.out.2.trans (hb8.mono HT.out.1.hB))⟩
theorem do14_any (B p q : Nat) (S : BS) (d : AskD) (w : World) (h : Tb B w p q S) (hw : d.wf) (hrd : Rd w B d.A d.n d.bs) : Calls Try.prog 8 #[.pointer (some ⟨p, 0, none⟩), .pointer (some ⟨q, 0, none⟩), d.v] w (DPost B p q w) := by
  by_cases hk : d.k = 1
  · exact do14_take B p q S d w h hw hk
  · exact do14_add B p q S d w h hw hrd hk
end Go.Proofs.Ythgbnknahnaemaa
