/-
  Two rows of packets alike (narthexkeep.Packets); two ledgers alike (the law's same).
-/
import Derived.Test.YtpihgikcgkipaaaUm
import Derived.Test.YtpihgikcgkipaaaTk
import Derived.Deep.RegionLaw
import Derived.Shelf.RegionOpenPlain
import Derived.BigRegion
namespace Go.Proofs.Ytpihgikcgkipaaa
set_option linter.unusedVariables false
set_option linter.unusedSimpArgs false
open Go.RowKit
set_option maxRecDepth 100000 in
set_option maxHeartbeats 4000000 in
theorem packets_any (A1 A2 : Option Addr) (n c1 c2 : Nat) (l1 l2 : PL) (w : World) (h1 : InP w A1 n l1) (h2 : InP w A2 n l2) (he : l1.map PK.core = l2.map PK.core) (hn : n ≤ 100000) :
    Calls Try.prog 20 #[.slice A1 n c1, .slice A2 n c2] w fun e w' => e = .returned (.bool true) ∧ Below w.heap.size w w' := by
  have H1 := Lib.hid h1
  have H2 := Lib.hid h2
  have HE := Lib.hid he
  clear h1 h2 he
  go_enter Try.func20, Try.ntmps20
  go_wp2
  go_loopg [5] n (fun kx s5 wr => ∃ (i : Nat), s5 = .int .i64 i ∧ i ≤ n ∧ n - i ≤ kx ∧ Below w.heap.size w wr)
  case atStart => exact ⟨0, rfl, Nat.zero_le _, by omega, Below.refl _ _⟩
  case round =>
    obtain ⟨i, rfl, hin, hkx, hB⟩ := hrel
    have HB := Lib.hid hB
    by_cases hlt : i < n
    · have hiz : (i : Int) < (n : Int) := by omega
      obtain ⟨b1, o1, rfl, _, hc1⟩ := (H1.out.below hB).2 (by omega)
      obtain ⟨b2, o2, rfl, _, hc2⟩ := (H2.out.below hB).2 (by omega)
      clear hB
      obtain ⟨r1, hr1⟩ : ∃ r, l1[i]? = some r := ⟨_, List.getElem?_eq_getElem (by rw [H1.out.1]; exact hlt)⟩
      obtain ⟨r2, hr2⟩ : ∃ r, l2[i]? = some r := ⟨_, List.getElem?_eq_getElem (by rw [H2.out.1]; exact hlt)⟩
      have hcc : r1.core = r2.core := by
        have h3 : (l1.map PK.core)[i]? = some r1.core := by rw [List.getElem?_map, hr1]; rfl
        have h4 : (l2.map PK.core)[i]? = some r2.core := by rw [List.getElem?_map, hr2]; rfl
        rw [HE.out, h4] at h3
        injection h3 with h3
        exact h3.symm
      have p1 := hc1 i r1 hr1
      have p2 := hc2 i r2 hr2
      have e1 : r1.n = r2.n := congrArg PC.n hcc
      have e2 : r1.t = r2.t := congrArg PC.t hcc
      have e3 : r1.s = r2.s := congrArg PC.s hcc
      have e4 : r1.a = r2.a := congrArg PC.a hcc
      have e5 : r1.k = r2.k := congrArg PC.k hcc
      have q1 := p1.cn
      have q2 := p1.ct
      have q3 := p1.cs
      have q4 := p1.ca
      have q5 := p1.cf
      have s1 := p2.cn
      have s2 := p2.ct
      have s3 := p2.cs
      have s4 := p2.ca
      have s5 := p2.cf
      rw [e1] at q1
      rw [e2] at q2
      rw [e3] at q3
      rw [e4] at q4
      rw [e5] at q5
      clear e1 e2 e3 e4 e5 p1 p2 hcc hr1 hr2 hc1 hc2
      go_wp2
      dsimp only [List.append]
      go_quiet (fail)
      go_wp2
      go_roundg (n - (i + 1))
      case measure => omega
      case rel => exact ⟨i + 1, by simp, by omega, by omega, belowN HB.out _⟩
    · obtain rfl : i = n := by omega
      have hiz : ¬ (i : Int) < (i : Int) := by omega
      clear hB
      go_wp2
      go_ret
      exact ⟨rfl, HB.out⟩
theorem old_core {l1 l2 : PL} {o1 o2 : PK} {k1 k2 : Bool} (he : l1.map PK.core = l2.map PK.core) (h1 : OldIs l1 o1 k1) (h2 : OldIs l2 o2 k2) : k1 = k2 ∧ o1.core = o2.core := by
  cases l1 with
  | nil =>
    cases l2 with
    | nil => exact ⟨h1.2.trans h2.2.symm, by rw [h1.1, h2.1]⟩
    | cons a t => simp at he
  | cons a t =>
    cases l2 with
    | nil => simp at he
    | cons b u =>
      simp only [List.map_cons, List.cons.injEq] at he
      exact ⟨h1.2.trans h2.2.symm, by rw [h1.1, h2.1, he.1]⟩
theorem last_core {l1 l2 : PL} (he : l1.map PK.core = l2.map PK.core) : lastT l1 = lastT l2 := by
  have h1 : (l1.map PK.core).getLast? = (l2.map PK.core).getLast? := by rw [he]
  rw [List.getLast?_map, List.getLast?_map] at h1
  unfold lastT
  cases ha : l1.getLast? with
  | none =>
    rw [ha] at h1
    cases hb : l2.getLast? with
    | none => rfl
    | some b => rw [hb] at h1; cases h1
  | some a =>
    rw [ha] at h1
    cases hb : l2.getLast? with
    | none => rw [hb] at h1; cases h1
    | some b =>
      rw [hb] at h1
      injection h1 with h1
      have : a.t = b.t := congrArg PC.t h1
      simp only [this]
theorem lastT_two (l : PL) : ∃ (t : Int) (b : Bool), lastT l = #[.int .i64 t, .bool b] := by
  unfold lastT
  cases l.getLast? with
  | none => exact ⟨_, _, rfl⟩
  | some r => exact ⟨_, _, rfl⟩
theorem sum_core {l1 l2 : PL} (he : l1.map PK.core = l2.map PK.core) : sumS l1 = sumS l2 := by rw [sumS_core, sumS_core, he]
set_option maxRecDepth 100000 in
set_option maxHeartbeats 8000000 in
theorem same_any {base base2 p q : Nat} {nx ak : Int} {hd : Bool} {v1 v2 : Value} {l1 l2 : PL} {w : World} (hp : LV w base p nx ak hd v1 l1) (hq : RV w base2 q nx ak hd v2 l2) (he : l1.map PK.core = l2.map PK.core) (hn : l1.length ≤ 64) (hs : ∀ r ∈ l1, (0 ≤ r.s ∧ r.s ≤ 512) ∧ r.a = true) :
    Calls Try.prog 24 #[.pointer (some ⟨p, 0, none⟩), .pointer (some ⟨q, 0, none⟩)] w fun e w' => e = .returned (.bool true) ∧ Below w.heap.size w w' := by
  have hs2 : ∀ r ∈ l2, (0 ≤ r.s ∧ r.s ≤ 512) ∧ r.a = true := fun r hr => by
    have h1 : r.core ∈ l1.map PK.core := by rw [he]; exact List.mem_map_of_mem hr
    obtain ⟨r1, hr1, e⟩ := List.mem_map.1 h1
    have h2 := hs r1 hr1
    rw [show r1.s = r.s from congrArg PC.s e, show r1.a = r.a from congrArg PC.a e] at h2
    exact h2
  have hn2 : l2.length ≤ 64 := by rw [len_core, ← he, ← len_core]; exact hn
  have hll : l1.length = l2.length := by rw [len_core, he, ← len_core]
  have HP := Lib.hid hp
  have HQ := Lib.hid hq
  have HE := Lib.hid he
  have HS := Lib.hid hs
  have HS2 := Lib.hid hs2
  have HLL := Lib.hid hll
  have hpl := hp.at_.lt
  have hql := hq.at_.lt
  clear hp hq he hs hs2 hll
  go_enter Try.func24, Try.ntmps24
  go_wp2_with fail
  refine (soldest_any HP.out (by omega)).mono ?_
  rintro e w1 ⟨o1, k1, rfl, ho1, hb1⟩
  obtain ⟨n1, t1, s1, a1, A1, k1', c1⟩ := o1
  rw [show Value.agg (pkC ⟨n1, t1, s1, a1, A1, k1', c1⟩).toArray = .agg #[.int .u64 n1, .int .i64 t1, .int .i64 s1, .bool a1, .slice A1 k1' c1] from rfl]
  have hx1 := At.new w1 31 [.int .u64 n1, .int .i64 t1, .int .i64 s1, .bool a1, .slice A1 k1' c1]
  have hb1x := hb1.alloc hb1.size (.cells #[.int .u64 n1, .int .i64 t1, .int .i64 s1, .bool a1, .slice A1 k1' c1] 31)
  have HX1 := Lib.hid hx1
  have HB1 := Lib.hid hb1x
  have HO1 := Lib.hid ho1
  clear hx1 hb1 hb1x ho1
  go_wp2_with fail
  refine (roldest_any (HQ.out.below HB1.out) (by omega) (fun r hr => (HS2.out r hr).2)).mono ?_
  rintro e w2 ⟨o2, k2, rfl, ho2, hb2⟩
  obtain ⟨rfl, hoc⟩ := old_core HE.out HO1.out ho2
  obtain ⟨n2, t2, s2, a2, A2, k2', c2⟩ := o2
  obtain rfl : n1 = n2 := congrArg PC.n hoc
  obtain rfl : s1 = s2 := congrArg PC.s hoc
  rw [show Value.agg (pkC ⟨n1, t2, s1, a2, A2, k2', c2⟩).toArray = .agg #[.int .u64 n1, .int .i64 t2, .int .i64 s1, .bool a2, .slice A2 k2' c2] from rfl]
  have hx2 := At.new w2 31 [.int .u64 n1, .int .i64 t2, .int .i64 s1, .bool a2, .slice A2 k2' c2]
  have hax2 : Below w2.heap.size w2 (w2.alloc (.cells #[.int .u64 n1, .int .i64 t2, .int .i64 s1, .bool a2, .slice A2 k2' c2] 31)) := (Below.refl _ _).alloc (Nat.le_refl _) _
  have hx1b := (HX1.out.below hb2 HX1.out.lt).below hax2 (Nat.lt_of_lt_of_le HX1.out.lt hb2.size)
  have hb2x := HB1.out.trans ((hb2.trans (hax2.mono hb2.size)).mono HB1.out.size)
  have HX2 := Lib.hid (And.intro hx1b hx2)
  have HB2 := Lib.hid hb2x
  clear hx2 hax2 hx1b hb2x hb2 ho2 hoc HO1 HX1 HB1
  go_wp2_with fail
  refine (slast_any (HP.out.below HB2.out) (by omega)).mono ?_
  rintro e w3 ⟨rfl, hb3⟩
  obtain ⟨tt, tb, htt⟩ := lastT_two l1
  rw [htt]
  have HTT := Lib.hid htt
  have HB3 := Lib.hid (HB2.out.trans (hb3.mono HB2.out.size))
  have HX3 := Lib.hid (And.intro (HX2.out.1.below hb3 HX2.out.1.lt) (HX2.out.2.below hb3 HX2.out.2.lt))
  clear htt hb3 HX2 HB2
  go_wp2_with fail
  refine (rlast_any (HQ.out.below HB3.out) (by omega) (fun r hr => (HS2.out r hr).2)).mono ?_
  rintro e w4 ⟨rfl, hb4⟩
  rw [← last_core HE.out, HTT.out]
  have HB4 := Lib.hid (HB3.out.trans (hb4.mono HB3.out.size))
  have HX4 := Lib.hid (And.intro (HX3.out.1.below hb4 HX3.out.1.lt) (HX3.out.2.below hb4 HX3.out.2.lt))
  clear hb4 HX3 HB3
  go_wp2_with fail
  refine (sacked_any (HP.out.below HB4.out)).mono ?_
  rintro e w5 ⟨rfl, hb5⟩
  have hB5 := HB4.out.trans (hb5.mono HB4.out.size)
  have y1 := (HX4.out.1.below hb5 HX4.out.1.lt).cell 0
  have y2 := (HX4.out.1.below hb5 HX4.out.1.lt).cell 2
  have z1 := (HX4.out.2.below hb5 HX4.out.2.lt).cell 0
  have z2 := (HX4.out.2.below hb5 HX4.out.2.lt).cell 2
  have r0 := (HQ.out.below hB5).at_.cell 0
  have r1 := (HQ.out.below hB5).at_.cell 1
  have r2 := (HQ.out.below hB5).at_.cell 2
  have r3 := (HQ.out.below hB5).at_.cell 3
  have HB5 := Lib.hid hB5
  clear hB5 hb5 HX4 HB4
  go_wp2
  clear y1 y2 z1 z2 r2 r3
  have hqW := (HQ.out.below HB5.out).at_.lt
  have HL5 := Lib.hid (HP.out.below HB5.out)
  have HR5 := Lib.hid (HQ.out.below HB5.out)
  have hd0 : Below w5.heap.size w5 w5.drew := ⟨rfl, rfl, rfl, Nat.le_refl _, fun _ _ => rfl⟩
  have r0' : w5.cell? ⟨q, 0, none⟩ = some v2 := r0
  obtain ⟨Av, cv, rfl, _, _⟩ := ownG_shape HR5.out.own
  rw [← HLL.out] at r0'
  clear r0
  have HFL := Lib.hid (fun W' (hb : Below w5.heap.size w5 W') => sflight_any (HL5.out.below hb) (by omega) (fun r hr => (HS.out r hr).1))
  have HRF := Lib.hid (fun W' (hb : Below w5.heap.size w5 W') => rflight_any (HR5.out.below hb) (by omega) (fun r hr => (HS2.out r hr).1) (fun r hr => (HS2.out r hr).2))
  have HLE := Lib.hid (fun W' (hb : Below w5.heap.size w5 W') => slen_any (HL5.out.below hb))
  have HNX := Lib.hid (fun W' (hb : Below w5.heap.size w5 W') => snext_any (HL5.out.below hb))
  rw [← sum_core HE.out] at HRF
  have mixed : Try.prog.follows .mixedOrders = true := by kernel_rfl
  obtain ⟨S, hS⟩ : ∃ S, sumS l1 = S := ⟨_, rfl⟩
  rw [hS] at HFL HRF
  obtain ⟨N, hN⟩ : ∃ N, l1.length = N := ⟨_, rfl⟩
  rw [hN] at HLE r0'
  clear hS hN
  refine wp_region_held_drew (S := (fun W => Below w5.heap.size w5 W ∧ W.cell? ⟨q, 0, none⟩ = some (.slice Av N cv) ∧ W.cell? ⟨q, 1, none⟩ = some (.int .u64 nx))) (by kernel_rfl) (⟨hd0, r0', r1⟩) (fun hHeld => ?_)
  refine tkq 0 (some 83) (v := ?_) rfl (Or.inl ⟨by rfl, ?_⟩) (by assumption) ?_
  rotate_left
  · intro w hSw; (try dsimp only at hSw); go_simp; first | done | (with_reducible rfl)
  simp only [Act.put, List.setIfInBounds_toArray, List.set_cons_zero, List.set_cons_succ]
  refine tkq 2 (some 85) (v := ?_) rfl (Or.inl ⟨by rfl, ?_⟩) (by assumption) ?_
  rotate_left
  · intro w hSw; (try dsimp only at hSw); go_simp; first | done | (with_reducible rfl)
  simp only [Act.put, List.setIfInBounds_toArray, List.set_cons_zero, List.set_cons_succ]
  refine wpAnyH_ready (rs := [1]) (by kernel_rfl) (by simp) ?_
  refine AllReadyH.cons rfl (fun K hK => ?_) AllReadyH.nil
  go_simp
  go_wp2_with (go_at_call 15; (with_reducible refine (HFL.out _ hHeld.1).mono ?_); rintro e w6 ⟨rfl, h6⟩)
  refine hK.out _ _ (⟨hHeld.1.trans (h6.mono hHeld.1.size), (h6.cell (p := ⟨q, 0, none⟩) (Nat.lt_of_lt_of_le hqW hHeld.1.size)).trans hHeld.2.1, (h6.cell (p := ⟨q, 1, none⟩) (Nat.lt_of_lt_of_le hqW hHeld.1.size)).trans hHeld.2.2⟩) (fun hHeld => ?_)
  clear hK K
  refine wpAnyH_ready (rs := [3]) (by kernel_rfl) (by simp) ?_
  refine AllReadyH.cons rfl (fun K hK => ?_) AllReadyH.nil
  go_simp
  go_wp2_with (go_at_call 40; (with_reducible refine (HRF.out _ hHeld.1).mono ?_); rintro e w7 ⟨rfl, hw7⟩)
  subst hw7
  refine hK.out _ _ (hHeld) (fun hHeld => ?_)
  clear hK K
  refine tkq 4 (some 87) (v := ?_) rfl (Or.inl ⟨by rfl, ?_⟩) (by assumption) ?_
  rotate_left
  · intro w hSw; (try dsimp only at hSw); go_simp; first | done | (with_reducible rfl)
  simp only [Act.put, List.setIfInBounds_toArray, List.set_cons_zero, List.set_cons_succ]
  refine tkq 5 (some 88) (v := ?_) rfl (Or.inl ⟨by rfl, ?_⟩) (by assumption) ?_
  rotate_left
  · intro w hSw; (try dsimp only at hSw); go_simp; first | done | (with_reducible rfl)
  simp only [Act.put, List.setIfInBounds_toArray, List.set_cons_zero, List.set_cons_succ]
  refine tkq 6 (some 89) (v := ?_) rfl (Or.inl ⟨by rfl, ?_⟩) (by assumption) ?_
  rotate_left
  · intro w hSw; (try dsimp only at hSw); go_simp; first | done | (with_reducible rfl)
  simp only [Act.put, List.setIfInBounds_toArray, List.set_cons_zero, List.set_cons_succ]
  refine tkq 8 (some 91) (v := ?_) rfl (Or.inl ⟨by rfl, ?_⟩) (by assumption) ?_
  rotate_left
  · intro w hSw; (try dsimp only at hSw); go_simp; first | done | (with_reducible rfl)
  simp only [Act.put, List.setIfInBounds_toArray, List.set_cons_zero, List.set_cons_succ]
  refine tkq 9 (some 92) (v := ?_) rfl (Or.inl ⟨by rfl, ?_⟩) (by assumption) ?_
  rotate_left
  · intro w hSw; (try dsimp only at hSw); go_simp; first | done | (with_reducible rfl)
  simp only [Act.put, List.setIfInBounds_toArray, List.set_cons_zero, List.set_cons_succ]
  refine tkq 10 (some 93) (v := ?_) rfl (Or.inl ⟨by rfl, ?_⟩) (by assumption) ?_
  rotate_left
  · intro w hSw; (try dsimp only at hSw); go_simp; first | done | (with_reducible rfl)
  simp only [Act.put, List.setIfInBounds_toArray, List.set_cons_zero, List.set_cons_succ]
  refine tkq 11 (some 94) (v := ?_) rfl (Or.inl ⟨by rfl, ?_⟩) (by assumption) ?_
  rotate_left
  · intro w hSw; (try dsimp only at hSw); go_simp; first | done | (with_reducible rfl)
  simp only [Act.put, List.setIfInBounds_toArray, List.set_cons_zero, List.set_cons_succ]
  refine tkq 12 (some 95) (v := ?_) rfl (Or.inl ⟨by rfl, ?_⟩) (by assumption) ?_
  rotate_left
  · intro w hSw; (try dsimp only at hSw); go_simp; first | done | (with_reducible rfl)
  simp only [Act.put, List.setIfInBounds_toArray, List.set_cons_zero, List.set_cons_succ]
  refine wpAnyH_ready (rs := [7]) (by kernel_rfl) (by simp) ?_
  refine AllReadyH.cons rfl (fun K hK => ?_) AllReadyH.nil
  go_simp
  go_wp2_with (go_at_call 14; (with_reducible refine (HLE.out _ hHeld.1).mono ?_); rintro e w7 ⟨rfl, hw7⟩)
  subst hw7
  refine hK.out _ _ (hHeld) (fun hHeld => ?_)
  clear hK K
  refine tkq 13 (some 96) (v := ?_) rfl (Or.inl ⟨by rfl, ?_⟩) (by assumption) ?_
  rotate_left
  · intro w hSw; (try dsimp only at hSw); go_simp; first | done | (with_reducible rfl)
  simp only [Act.put, List.setIfInBounds_toArray, List.set_cons_zero, List.set_cons_succ]
  refine tkq 14 (some 97) (v := ?_) rfl (Or.inl ⟨by rfl, ?_⟩) (by assumption) ?_
  rotate_left
  · intro w hSw; (try dsimp only at hSw); go_simp; first | done | (with_reducible rfl)
  simp only [Act.put, List.setIfInBounds_toArray, List.set_cons_zero, List.set_cons_succ]
  refine tkq 15 (some 98) (v := ?_) rfl (Or.inl ⟨by rfl, ?_⟩) (by assumption) ?_
  rotate_left
  · intro w hSw; (try dsimp only at hSw); go_simp; first | done | (with_reducible rfl)
  simp only [Act.put, List.setIfInBounds_toArray, List.set_cons_zero, List.set_cons_succ]
  refine tkq 16 (some 99) (v := ?_) rfl (Or.inl ⟨by rfl, ?_⟩) (by assumption) ?_
  rotate_left
  · intro w hSw; (try dsimp only at hSw); go_simp; first | done | (with_reducible rfl)
  simp only [Act.put, List.setIfInBounds_toArray, List.set_cons_zero, List.set_cons_succ]
  refine tkq 18 (some 101) (v := ?_) rfl (Or.inl ⟨by rfl, ?_⟩) (by assumption) ?_
  rotate_left
  · intro w hSw; (try dsimp only at hSw); go_simp; first | done | (with_reducible rfl)
  simp only [Act.put, List.setIfInBounds_toArray, List.set_cons_zero, List.set_cons_succ]
  refine tkq 19 (some 102) (v := ?_) rfl (Or.inl ⟨by rfl, ?_⟩) (by assumption) ?_
  rotate_left
  · intro w hSw; (try dsimp only at hSw); go_simp; first | done | (with_reducible rfl)
  simp only [Act.put, List.setIfInBounds_toArray, List.set_cons_zero, List.set_cons_succ]
  refine tkq 20 (some 103) (v := ?_) rfl (Or.inl ⟨by rfl, ?_⟩) (by assumption) ?_
  rotate_left
  · intro w hSw; (try dsimp only at hSw); go_simp; first | done | (with_reducible rfl)
  simp only [Act.put, List.setIfInBounds_toArray, List.set_cons_zero, List.set_cons_succ]
  refine tkq 21 (some 104) (v := ?_) rfl (Or.inl ⟨by rfl, ?_⟩) (by assumption) ?_
  rotate_left
  · intro w hSw; (try dsimp only at hSw); go_simp; first | done | (with_reducible rfl)
  simp only [Act.put, List.setIfInBounds_toArray, List.set_cons_zero, List.set_cons_succ]
  refine wpAnyH_ready (rs := [17]) (by kernel_rfl) (by simp) ?_
  refine AllReadyH.cons rfl (fun K hK => ?_) AllReadyH.nil
  go_simp
  go_wp2_with (go_at_call 25; (with_reducible refine (HNX.out _ hHeld.1).mono ?_); rintro e w7 ⟨rfl, hw7⟩)
  subst hw7
  refine hK.out _ _ (hHeld) (fun hHeld => ?_)
  clear hK K
  refine tkq 22 (some 105) (v := ?_) rfl (Or.inl ⟨by rfl, ?_⟩) (by assumption) ?_
  rotate_left
  · intro w hSw; (try dsimp only at hSw); go_simp; first | done | (with_reducible rfl)
  simp only [Act.put, List.setIfInBounds_toArray, List.set_cons_zero, List.set_cons_succ]
  refine tkq 23 (some 106) (v := ?_) rfl (Or.inl ⟨by rfl, ?_⟩) (by assumption) ?_
  rotate_left
  · intro w hSw; (try dsimp only at hSw); go_simp; first | done | (with_reducible rfl)
  simp only [Act.put, List.setIfInBounds_toArray, List.set_cons_zero, List.set_cons_succ]
  refine tkq 24 (some 4) (v := ?_) rfl (Or.inl ⟨by rfl, ?_⟩) (by assumption) ?_
  rotate_left
  · intro w hSw; (try dsimp only at hSw); go_simp; first | done | (with_reducible rfl)
  simp only [Act.put, List.setIfInBounds_toArray, List.set_cons_zero, List.set_cons_succ]
  refine wpAnyH_done (by kernel_rfl) ?_ _
  go_wp2
  go_ret
  exact ⟨rfl, HB5.out.trans (hHeld.1.mono HB5.out.size)⟩
end Go.Proofs.Ytpihgikcgkipaaa
