/-
  LockBack returns true at every input: its walk.
-/
import Derived.Test.YtkgeeoogmkpjhaaL2
namespace Go.Proofs.Ytkgeeoogmkpjhaa
set_option linter.unusedVariables false
set_option linter.unusedSimpArgs false
open Go.RowKit Go.ChangeShapes Go.WideShapes Go.Deep
/-- A row that came in, cut to no more than k bytes. -/
theorem InRow.cutk {w : World} {A : Option Addr} {n c : Nat} {bs : List Int} (h : InRow w A n c bs) (k : Nat) : Rd w w.heap.size A (min n k) (bs.take (min n k)) ∧ min n k ≤ k ∧ min n k ≤ n ∧ min n k ≤ c ∧ c ≤ maxLen ∧ (k < n → A ≠ none) := by
  obtain ⟨h1, h2, h3, h4⟩ := h
  exact ⟨h1.cut (Nat.min_le_left _ _), Nat.min_le_right _ _, Nat.min_le_left _ _, Nat.le_trans (Nat.min_le_left _ _) h2, h3, fun hk e => by have := h4 e; omega⟩
set_option maxRecDepth 100000 in
set_option maxHeartbeats 4000000 in
theorem lback_walk (key n : Int) (Ah : Option Addr) (nh ch : Nat) (head0 : List Int) (Ab : Option Addr) (nb cb : Nat) (body0 : List Int) (cut : Int) (w : World) (k0 : 0 ≤ key) (k1 : key < 18446744073709551616) (n0 : 0 ≤ n) (n1 : n < 18446744073709551616)
    (hih : InRow w Ah nh ch head0) (hib : InRow w Ab nb cb body0) (u0 : -9223372036854775808 ≤ cut) (u1 : cut ≤ 9223372036854775807) :
    Calls Try.prog 5 #[.int .u64 key, .int .u64 n, .slice Ah nh ch, .slice Ab nb cb, .int .i64 cut] w fun e w' => e = .returned (.bool true) ∧ Below w.heap.size w w' := by
  have hch := cut_any Ah nh ch 30 w hih.2.1 hih.2.2.1 (by omega) (hih.cutk 30).2.2.2.2.2
  have hcb := cut_any Ab nb cb 100 w hib.2.1 hib.2.2.1 (by omega) (hib.cutk 100).2.2.2.2.2
  obtain ⟨hrh, hh1, _, hh2, hh3, _⟩ := hih.cutk 30
  obtain ⟨hrb, hb1, _, hb2, hb3, _⟩ := hib.cutk 100
  obtain ⟨head, hhd⟩ : ∃ x, head0.take (min nh 30) = x := ⟨_, rfl⟩
  obtain ⟨body, hbd⟩ : ∃ x, body0.take (min nb 100) = x := ⟨_, rfl⟩
  rw [hhd] at hrh
  rw [hbd] at hrb
  obtain ⟨mh, hmh⟩ : ∃ x, min nh 30 = x := ⟨_, rfl⟩
  obtain ⟨mb, hmb⟩ : ∃ x, min nb 100 = x := ⟨_, rfl⟩
  rw [hmh] at hrh hch hh1 hh2
  rw [hmb] at hrb hcb hb1 hb2
  have hbl := hrb.1
  have hbby := hrb.2.1
  have hsl : (sealS key n head body).length = mb + 8 := by rw [sealS_len, hbl]
  have HSL := Lib.hid hsl
  have hOS := open_seal key n head body hbby
  have HCH := Lib.hid hch
  have HCB := Lib.hid hcb
  have HRH := Lib.hid hrh
  have HRB := Lib.hid hrb
  have HBL := Lib.hid hbl
  have hW := Lib.hid (fun W => within_any cut 0 7 W u0 u1 (by omega) (by omega) (by omega))
  have hwb := withinS_bd cut 0 7 (by omega)
  have hwk : withinS cut 0 7 = ((withinS cut 0 7).toNat : Int) := by omega
  obtain ⟨kk, hkk⟩ : ∃ x, (withinS cut 0 7).toNat = x := ⟨_, rfl⟩
  rw [hkk] at hwk
  rw [hwk] at hW hwb
  clear hhd hbd hmh hmb hch hcb hrh hrb hbl hsl hih hib hkk hwk
  go_enter Try.func5, Try.ntmps5
  go_wp2_with fail
  refine HCH.out.mono ?_
  rintro e w' ⟨rfl, rfl⟩
  go_wp2_with fail
  refine HCB.out.mono ?_
  rintro e w' ⟨rfl, rfl⟩
  go_wp2_with fail
  refine (roomy_any Ab mb cb body 165 w HRB.out (by omega) (by omega) (by omega)).mono ?_
  rintro e w1 ⟨v1, rfl, ho1, hb1'⟩
  obtain ⟨Af, cf, rfl, hf1, hf2, hrf⟩ := ho1.open_n (mb + 80) (by rw [List.length_append, HBL.out]; simp)
  obtain ⟨gf, off, rfl, hgf, _⟩ := hrf.2.2 (by omega)
  have hrc : Rd w1 w1.heap.size (some ⟨gf, off, none⟩) mb body := by
    have := hrf.cut (m := mb) (by omega)
    rw [List.take_append_of_le_length (by rw [HBL.out]; omega), List.take_of_length_le (by rw [HBL.out]; omega)] at this
    exact this
  have hmc : mb ≤ cf := by omega
  have hmi : (mb : Int) ≤ (cf : Int) := by omega
  have hf3 := hf2
  unfold maxLen at hf3
  clear ho1
  go_wp2_with fail
  refine (seal_any key n Ah mh ch head (some ⟨gf, off, none⟩) mb cf body w1 ((HRH.out.below hb1').more hb1'.size) hrc hh2 hh3 hmc hf2 (by omega) k0 k1 n0 n1).mono ?_
  rintro e w2 ⟨v2, rfl, ho2, hb2'⟩
  have hrf := (hrf.below hb2').more hb2'.size
  have hb2' := hb1'.trans (hb2'.mono hb1'.size)
  obtain ⟨A2, c2, rfl, p1, p2, p3⟩ := ho2.open_n (mb + 8) HSL.out
  clear ho2 hrc hb1'
  go_wp2_with fail
  refine (open_any key n Ah mh ch head A2 (mb + 8) c2 _ w2 ((HRH.out.below hb2').more hb2'.size) p3 hh2 hh3 p1 p2 (by omega) k0 k1 n0 n1).mono ?_
  unfold OpPost
  rw [hOS.1, hOS.2]
  rintro e w3 ⟨v3, rfl, ho3, hb3'⟩
  have hrf := (hrf.below hb3').more hb3'.size
  have p3 := (p3.below hb3').more hb3'.size
  have hb3' := hb2'.trans (hb3'.mono hb2'.size)
  obtain ⟨A3, c3, rfl, _, _, q3⟩ := ho3.open_n mb HBL.out
  have hrb3 := (HRB.out.below hb3').more hb3'.size
  have t3 := run_text (P := Try.prog) (c := c3) q3 22 5 9 Try.underlying22 Try.underlying5 Try.underlying9
  have t4 := run_text (P := Try.prog) (c := cb) hrb3 22 5 9 Try.underlying22 Try.underlying5 Try.underlying9
  obtain ⟨T, hT⟩ : ∃ x, strOfNums body = x := ⟨_, rfl⟩
  rw [hT] at t3 t4
  have hTT : (T.toList == T.toList) = true := by simp
  obtain ⟨gb, offb, rfl, _, _⟩ := p3.2.2 (by omega)
  have p4 := p3.cut (m := kk) (by omega)
  have p5 := p2
  unfold maxLen at p5
  clear ho3 q3 hT hb2' hOS p3
  go_wp2_with fail
  refine (intact_any (some ⟨gf, off, none⟩) Ab mb cf cb body 165 w3 _ _ hrf hrb3 hf1 hf2 (by omega)).mono ?_
  rintro e w4 ⟨rfl, d, rfl⟩
  clear t3 t4 hrf hrb3
  go_wp2_with fail
  refine (hW.out _).mono ?_
  rintro e w' ⟨rfl, rfl⟩
  have p4 := p4.drewN d
  have hb4 := belowN hb3' d
  have hrh4 := (HRH.out.below hb3').more hb3'.size |>.drewN d
  have hki : (kk : Int) ≤ (c2 : Int) := by omega
  have hk0 : (0 : Int) ≤ (kk : Int) := by omega
  have hkc : kk ≤ c2 := by omega
  go_wp2_with fail
  refine (open_any key n Ah mh ch head (some ⟨gb, offb, none⟩) kk c2 _ (w3.drewN d) hrh4 p4 hh2 hh3 hkc p2 (by omega) k0 k1 n0 n1).mono ?_
  unfold OpPost
  rw [(openB_short key n head _ (by rw [p4.1]; omega)).1]
  rintro e w5 ⟨v5, rfl, _, hb5⟩
  have hb5 := hb4.trans (hb5.mono hb4.size)
  go_wp2_with fail
  refine (lknown_any w5).mono ?_
  rintro e w6 ⟨rfl, hb6⟩
  have hb6 := hb5.trans (hb6.mono hb5.size)
  go_wp2_with fail
  go_ret
  exact ⟨rfl, hb6⟩
theorem lback_law (a0 a1 : Int) (A2 : Option Addr) (n2 c2 : Nat) (bs2 : List Int) (A3 : Option Addr) (n3 c3 : Nat) (bs3 : List Int) (a4 : Int) (w : World) (w0 : (Lit.int .u64 a0).wf = true) (w1 : (Lit.int .u64 a1).wf = true) (w2 : InRow w A2 n2 c2 bs2) (w3 : InRow w A3 n3 c3 bs3) (w4 : (Lit.int .i64 a4).wf = true) :
    Calls Try.prog 5 #[.int .u64 a0, .int .u64 a1, .slice A2 n2 c2, .slice A3 n3 c3, .int .i64 a4] w fun e w' => e = .returned (.bool true) ∧ Below w.heap.size w w' := by
  have h0 := bounds_u64 w0
  have h1 := bounds_u64 w1
  have h4 := bounds_i64 w4
  exact lback_walk a0 a1 A2 n2 c2 bs2 A3 n3 c3 bs3 a4 w h0.1 (by omega) h1.1 (by omega) w2 w3 (by omega) (by omega)
end Go.Proofs.Ytkgeeoogmkpjhaa
