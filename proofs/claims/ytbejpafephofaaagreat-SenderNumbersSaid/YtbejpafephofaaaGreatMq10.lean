/-
  outbuf.Buffer: Next, whole.
-/
import Derived.Test.YtbejpafephofaaaGreatDl
import Derived.Test.YtbejpafephofaaaGreatDm
import Derived.Test.YtbejpafephofaaaGreatDn
import Derived.Test.YtbejpafephofaaaGreatDo
import Derived.Test.YtbejpafephofaaaGreatMq8
namespace Go.Proofs.YtbejpafephofaaaGreat
section
set_option linter.unusedVariables false
set_option linter.unusedSimpArgs false
open Go.RowKit
theorem gd_ext : ∀ {l l' : RL}, Gd l → Gd l' → (∀ j : Nat, hasL l (j : Int) = hasL l' (j : Int)) → l = l'
  | [], [], _, _, _ => rfl
  | [], s :: t, _, h2, he => by
    have ho := (gd_cons.1 h2).1
    unfold OkR at ho
    have := he s.1.toNat
    rw [has_true.2 ⟨s, List.mem_cons_self .., by omega, by omega⟩] at this
    cases this
  | r :: t, [], h1, _, he => by
    have ho := (gd_cons.1 h1).1
    unfold OkR at ho
    have := he r.1.toNat
    rw [has_true.2 ⟨r, List.mem_cons_self .., by omega, by omega⟩] at this
    cases this
  | r :: t, s :: t', h1, h2, he => by
    have o1 := gd_cons.1 h1
    have o2 := gd_cons.1 h2
    obtain ⟨p1, p2, p3⟩ := o1
    obtain ⟨q1, q2, q3⟩ := o2
    unfold OkR at p1 q1
    have s1 : Says (r :: t) (fun j => hasL (s :: t') (j : Int)) := he
    have s2 : Says (s :: t') (fun j => hasL (s :: t') (j : Int)) := fun j => rfl
    obtain ⟨a1, a2, a3⟩ := says_head h1 s1
    obtain ⟨b1, b2, b3⟩ := says_head h2 s2
    have e1 : r.1 = s.1 := by
      rcases Int.lt_trichotomy r.1 s.1 with h | h | h
      · have x := a2 r.1.toNat (by omega) (by omega)
        have y := b1 r.1.toNat (by omega)
        rw [x] at y; cases y
      · exact h
      · have x := b2 s.1.toNat (by omega) (by omega)
        have y := a1 s.1.toNat (by omega)
        rw [x] at y; cases y
    have e2 : r.2 = s.2 := by
      rcases Int.lt_trichotomy r.2 s.2 with h | h | h
      · have x := a3 r.2.toNat (by omega)
        have y := b2 r.2.toNat (by omega) (by omega)
        rw [x] at y; cases y
      · exact h
      · have x := b3 s.2.toNat (by omega)
        have y := a2 s.2.toNat (by omega) (by omega)
        rw [x] at y; cases y
    have e : r = s := Prod.ext e1 e2
    subst e
    have : t = t' := gd_ext p2 q2 fun j => by
      have hj := he j
      rw [has_cons, has_cons] at hj
      cases hin : inR r j with
      | false => rw [hin] at hj; simpa using hj
      | true =>
        have hr := (inR_iff r j).1 hin
        have no : ∀ l : RL, (∀ x ∈ l, r.2 < x.1) → hasL l (j : Int) = false := fun l hl => by
          cases hc : hasL l (j : Int) with
          | false => rfl
          | true =>
            obtain ⟨x, hx, k1, k2⟩ := has_true.1 hc
            have := hl x hx
            omega
        rw [no t p3, no t' q3]
    rw [this]
theorem onext_any {w : World} {base p : Nat} {O : Nat → Prop} {S : OS} (h : Of w base p O S) (hok : S.ok) (hb : base ≤ w.heap.size) (hL : S.bs.length ≤ 1099511627776) (most : Int) (hm : -9223372036854775808 ≤ most ∧ most < 9223372036854775808) (limit : Nat) (hl : limit < 18446744073709551616) :
    Calls Tryz.prog 56 #[.pointer (some ⟨p, 0, none⟩), .int .i64 most, .int .u64 limit] w (ONPost base p O S most.toNat limit w) := by
  obtain ⟨pa, pl, va, vl, vw, la, ll, hOO, hO, hy⟩ := h
  obtain ⟨lo, hi0, ok, h1, hle, hhl, hno, hyes, hbl, hge⟩ := next_ah hok hy most.toNat limit
  have h : Of w base p O S := ⟨pa, pl, va, vl, vw, la, ll, hOO, hO, hy⟩
  have hah : ∀ la' ll', Sa S la' ll' → ahO S ll' limit = (((lo : Int), (hi0 : Int)), ok) := fun la' ll' hy' => by
    have e : ll' = ll := gd_ext hy'.gl hy.gl fun j => by rw [hy'.yl, hy.yl]
    rw [e]
    exact h1
  clear h1
  cases ok with
  | false => exact onext_no h hok hL most hm limit hl lo hi0 false hah (.inl rfl) (hno (.inl rfl))
  | true =>
    by_cases hc : most < 1 ∧ lo < hi0
    · exact onext_no h hok hL most hm limit hl lo hi0 true hah (.inr hc) (hno (.inr ⟨by omega, hc.2⟩))
    · have hr0 := hyes rfl (by omega)
      have hr : ∀ hi, hi = min hi0 (lo + most.toNat) → nextR S most.toNat limit = ⟨lo, hi - lo, decide (hi = S.bs.length) && endO S, true⟩ := fun hi e => by subst e; exact hr0
      clear hr0
      rcases Int.lt_or_le most 0 with h0 | h0
      · have hlo : hi0 = lo := by omega
        exact onext_s1 h hok hb hL most ⟨hm.1, h0⟩ limit hl lo hi0 lo hah (Nat.le_refl _) (by omega) (by omega) (hbl rfl) (fun _ => hge rfl hlo.symm) rfl hlo (hr lo (by omega))
      · obtain ⟨M, rfl⟩ : ∃ M : Nat, most = (M : Int) := ⟨most.toNat, by omega⟩
        rcases Nat.eq_zero_or_pos M with hz | hz
        · subst hz
          have hlo : hi0 = lo := by omega
          exact onext_s4 h hok hb hL limit hl lo hi0 lo hah (Nat.le_refl _) (by omega) (by omega) (hbl rfl) (fun _ => hge rfl hlo.symm) rfl hlo (hr lo (by omega))
        · rcases Nat.lt_or_ge (lo + M) hi0 with h2 | h2
          · exact onext_s2 h hok hb hL M (by omega) limit hl lo hi0 (lo + M) hah (by omega) (by omega) (by omega) (hbl rfl) (fun e => by omega) rfl h2 hz (hr (lo + M) (by omega))
          · exact onext_s3 h hok hb hL M (by omega) limit hl lo hi0 hi0 hah hle (by omega) (by omega) (hbl rfl) (fun e => hge rfl e) rfl h2 hz (hr hi0 (by omega))
end
section
set_option linter.unusedVariables false
set_option linter.unusedSimpArgs false
open Go.RowKit
theorem tHi_bound {S : OS} (hok : S.ok) (off : Nat) (n : Int) : tLo S.gn off ≤ tHi S.gn off n ∧ tHi S.gn off n ≤ S.bs.length := by
  have := tHi_le S.gn off n
  have := hok.gl
  omega
set_option maxHeartbeats 4000000 in
set_option maxRecDepth 100000 in
theorem oacked_any {w : World} {base p : Nat} {O : Nat → Prop} {S : OS} (h : Of w base p O S) (hok : S.ok) (hb : base ≤ w.heap.size) (hL : S.bs.length ≤ 1099511627776) (off : Nat) (ho : off < 18446744073709551616) (n : Int) (hn : -9223372036854775808 ≤ n ∧ n < 9223372036854775808) (fin : Bool) :
    Calls Tryz.prog 39 #[.pointer (some ⟨p, 0, none⟩), .int .u64 off, .int .i64 n, .bool fin] w (OfPost (.tuple #[]) base p O (ackO S off n.toNat fin) w) := by
  obtain ⟨pa, pl, va, vl, vw, la, ll, rfl, hO, hy⟩ := h
  have hgb := gn_base hok
  have hth := tHi_bound hok off n
  have ht2 := tHi_le S.gn off n
  have hsa := hy.acked hok hL off n fin
  have hok' := ackO_ok hok off n.toNat fin
  have hbt := ackO_base S off n.toNat fin
  have htg := gn_base hok'
  have hgap := base_gap hok' hsa.ga hsa.ya (b := baseO S) (fun j hj => by
    show (S.ak j || _) = true
    rw [base_ak S hj]
    rfl) hgb.1
  have hlaf := hy.la_few hok
  have hllf := hy.ll_few hok
  have HT := Lib.hid (told_any (w := w) (p := p) S.gn off n hO.at_.lt hO.c2 (by omega) ho hn)
  obtain ⟨lo, hlo⟩ : ∃ lo, lo = tLo S.gn off := ⟨_, rfl⟩
  obtain ⟨hi, hhi⟩ : ∃ hi, hi = tHi S.gn off n := ⟨_, rfl⟩
  rw [← hlo, ← hhi] at HT hth hsa hgap
  rw [← hhi] at ht2
  obtain ⟨t, ht⟩ : ∃ t, t = baseO (ackO S off n.toNat fin) := ⟨_, rfl⟩
  rw [← ht] at hbt htg hgap
  have htg' : t ≤ S.gn := htg.1
  obtain ⟨la', hla'⟩ : ∃ la', la' = addV la lo hi 2048 := ⟨_, rfl⟩
  obtain ⟨ll', hll'⟩ : ∃ ll', ll' = cutL ll lo hi 2048 := ⟨_, rfl⟩
  have hal := addV_len la lo hi 2048
  rw [← hla', ← hll'] at hsa
  rw [← hla'] at hgap hal
  -- the steps of memory
  have HX : Hid (∀ w2, Below w.heap.size w w2 → ∃ X, X = w2.alloc (.cells #[.int .u64 lo, .int .u64 hi] 89) ∧ Hid (Below w.heap.size w X) ∧ At X w2.heap.size 89 [.int .u64 lo, .int .u64 hi] ∧ Hid (w.heap.size ≤ w2.heap.size) ∧ X.cell? ⟨p, 3, none⟩ = some (.pointer (some ⟨pa, 0, none⟩))) := Lib.hid (fun w2 hB => ⟨_, rfl, Lib.hid (hB.alloc hB.size _), At.new w2 _ _, Lib.hid hB.size, (hO.below (hB.alloc hB.size _)).c3⟩)
  have HADD : Hid (∀ X g, Hid (Below w.heap.size w X) → At X g 89 [.int .u64 lo, .int .u64 hi] → Hid (w.heap.size ≤ g) → Calls Tryz.prog 52 #[.pointer (some ⟨pa, 0, none⟩), .int .u64 lo, .int .u64 hi] X.drew fun e w' => (∃ x, e = .returned (.bool x)) ∧ ∃ va', Hid (Om w' base p pa pl va' vl vw la' ll (S.bs.drop (baseO S)) (baseO S) S.gn S.ov (endO S) S.en S.ea ∧ Kept (oO p pa pl va vl vw) w w' ∧ (∀ j, oO p pa pl va' vl vw j → j ≠ g ∧ (oO p pa pl va vl vw j ∨ w.heap.size ≤ j))) ∧ At w' g 89 [.int .u64 lo, .int .u64 hi] ∧ w'.cell? ⟨p, 4, none⟩ = some (.pointer (some ⟨pl, 0, none⟩))) := Lib.hid (fun X g hB hA hg => by
    have hx := (hO.below hB.out).drew
    have hbX : base ≤ X.drew.heap.size := Nat.le_trans hb hB.out.size
    refine (add_any' base pa 2048 va la X.drew hx.sa (by omega) hy.ga hbX (by omega) lo hi (by omega)).mono fun e w' hP => ?_
    rw [← hla'] at hP
    obtain ⟨he, va', k1, k2, k3⟩ := hx.acks hP
    have hne : ∀ j, oO p pa pl va vl vw j → j ≠ g := fun j hj e => by have := (hO.lt j hj).2; have := hg.out; omega
    have hgX : g < X.drew.heap.size := hA.lt
    refine ⟨⟨_, he⟩, va', Lib.hid ⟨k1, ((Kept.of_below hB.out (oO p pa pl va vl vw)).drew).trans' k2 fun j hj => .inl hj, fun j hj => ?_⟩, hA.drew.kept k2 fun e => hne g e rfl, k1.c4⟩
    rcases k3 j hj with h | h
    · exact ⟨hne j h, .inl h⟩
    · exact ⟨by omega, .inr (Nat.le_trans hB.out.size h)⟩)
  have HCUT : Hid (∀ X va' g, Hid (Om X base p pa pl va' vl vw la' ll (S.bs.drop (baseO S)) (baseO S) S.gn S.ov (endO S) S.en S.ea ∧ Kept (oO p pa pl va vl vw) w X ∧ (∀ j, oO p pa pl va' vl vw j → j ≠ g ∧ (oO p pa pl va vl vw j ∨ w.heap.size ≤ j))) → Calls Tryz.prog 53 #[.pointer (some ⟨pl, 0, none⟩), .int .u64 lo, .int .u64 hi] X.drew fun e w' => e = .returned (.tuple #[]) ∧ ∃ vl', Hid (Om w' base p pa pl va' vl' vw la' ll' (S.bs.drop (baseO S)) (baseO S) S.gn S.ov (endO S) S.en S.ea ∧ Kept (oO p pa pl va vl vw) w w' ∧ (∀ j, oO p pa pl va' vl' vw j → oO p pa pl va vl vw j ∨ w.heap.size ≤ j))) := Lib.hid (fun X va' g hx => by
    obtain ⟨k1, k2, k3⟩ := hx.out
    have hbX : base ≤ X.drew.heap.size := Nat.le_trans hb k2.size
    refine (cut_any' base pl 2048 vl ll X.drew k1.drew.sl (by omega) hy.gl hbX (by omega) lo hi (by omega) (by omega)).mono fun e w' hP => ?_
    rw [← hll'] at hP
    obtain ⟨he, vl', m1, m2, m3⟩ := k1.drew.losts hP
    refine ⟨he, vl', Lib.hid ⟨m1, k2.drew.trans' m2 fun j hj => (k3 j hj).2, fun j hj => ?_⟩⟩
    rcases m3 j hj with h | h
    · exact (k3 j h).2
    · exact .inr (Nat.le_trans k2.size h))
  have HDROP : Hid (∀ X va' vl', Hid (Om X base p pa pl va' vl' vw la' ll' (S.bs.drop (baseO S)) (baseO S) S.gn S.ov (endO S) S.en S.ea ∧ Kept (oO p pa pl va vl vw) w X ∧ (∀ j, oO p pa pl va' vl' vw j → oO p pa pl va vl vw j ∨ w.heap.size ≤ j)) → Calls Tryz.prog 54 #[.pointer (some ⟨p, 0, none⟩)] X fun e w' => e = .returned (.tuple #[]) ∧ ∃ vw', Hid (Om w' base p pa pl va' vl' vw' la' ll' (S.bs.drop t) t S.gn S.ov (endO S) S.en S.ea ∧ Kept (oO p pa pl va vl vw) w w' ∧ (∀ j, oO p pa pl va' vl' vw' j → oO p pa pl va vl vw j ∨ w.heap.size ≤ j)) ∧ w'.cell? ⟨p, 7, none⟩ = some (.bool S.en)) := Lib.hid (fun X va' vl' hx => by
    obtain ⟨k1, k2, k3⟩ := hx.out
    refine (odrop_any k1 (Nat.le_trans hb k2.size) hsa.ga (by omega) (by omega) (by simp; omega) t hbt (by simp; omega) htg.1 (by rcases hgap with ⟨q1, q2⟩ | q1; exact .inl ⟨q1, q2⟩; exact .inr q1)).mono fun e w' hP => ?_
    obtain ⟨he, vw', m1, m2, m3⟩ := hP
    have e1 : (S.bs.drop (baseO S)).drop (t - baseO S) = S.bs.drop t := by rw [List.drop_drop]; congr 1; omega
    rw [e1] at m1
    refine ⟨he, vw', Lib.hid ⟨m1, k2.trans' m2 fun j hj => k3 j hj, fun j hj => ?_⟩, m1.c7⟩
    rcases m3 j hj with h | h
    · exact k3 j h
    · exact .inr (Nat.le_trans k2.size h))
  have HEND : Hid (∀ X va' vl' vw', Hid (Om X base p pa pl va' vl' vw' la' ll' (S.bs.drop t) t S.gn S.ov (endO S) S.en S.ea ∧ Kept (oO p pa pl va vl vw) w X ∧ (∀ j, oO p pa pl va' vl' vw' j → oO p pa pl va vl vw j ∨ w.heap.size ≤ j)) →
      ((fin && S.en) = false → OfPost (.tuple #[]) base p (oO p pa pl va vl vw) (ackO S off n.toNat fin) w (.returned (.tuple #[])) X) ∧
      ((fin && S.en) = true → OfPost (.tuple #[]) base p (oO p pa pl va vl vw) (ackO S off n.toNat fin) w (.returned (.tuple #[])) ((X.setCell ⟨p, 8, none⟩ (.bool true)).setCell ⟨p, 6, none⟩ (.bool false)))) := Lib.hid (fun X va' vl' vw' hx => by
    obtain ⟨k1, k2, k3⟩ := hx.out
    have hea : (ackO S off n.toNat fin).ea = (S.ea || (fin && S.en)) := rfl
    have hen : endO (ackO S off n.toNat fin) = (S.ov && !(S.ea || (fin && S.en)) && (!S.en || S.el)) := rfl
    constructor
    · intro hf
      refine ⟨rfl, _, ⟨pa, pl, va', vl', vw', la', ll', rfl, ?_, hsa⟩, k2, k3⟩
      rw [← ht, hea, hen, hf, Bool.or_false]
      exact k1
    · intro hf
      refine ⟨rfl, _, ⟨pa, pl, va', vl', vw', la', ll', rfl, ?_, hsa⟩, ?_, k3⟩
      · rw [← ht, hea, hen, hf, Bool.or_true]
        simp only [Bool.not_true, Bool.and_false, Bool.false_and]
        exact (k1.set_ea true).set_du false
      · exact (k2.setCell (p := ⟨p, 8, none⟩) (.inl (oO_at (i := 0) rfl)) _).setCell (p := ⟨p, 6, none⟩) (.inl (oO_at (i := 0) rfl)) _)
  have HST : Hid (∀ X va' vl' vw', Hid (Om X base p pa pl va' vl' vw' la' ll' (S.bs.drop t) t S.gn S.ov (endO S) S.en S.ea ∧ Kept (oO p pa pl va vl vw) w X ∧ (∀ j, oO p pa pl va' vl' vw' j → oO p pa pl va vl vw j ∨ w.heap.size ≤ j)) → X.cell? ⟨p, 8, none⟩ = some (.bool S.ea) ∧ X.frozen? ⟨p, 8, none⟩ = false ∧ (X.setCell ⟨p, 8, none⟩ (.bool true)).cell? ⟨p, 6, none⟩ = some (.bool (endO S)) ∧ (X.setCell ⟨p, 8, none⟩ (.bool true)).frozen? ⟨p, 6, none⟩ = false) := Lib.hid (fun X va' vl' vw' hx => ⟨hx.out.1.c8, hx.out.1.at_.frozen 8, (hx.out.1.set_ea true).c6, (hx.out.1.set_ea true).at_.frozen 6⟩)
  clear hO hy hsa hok' hbt htg htg' hgap hlaf hllf hal hla' hll' hlo hhi ht hok hgb hth ht2 hL hb
  generalize endO S = du at *
  generalize S.en = en at *
  generalize S.ea = ea at *
  cases fin
  · rw [Bool.false_and] at HEND
    go_enter Tryz.func39, Tryz.ntmps39
    go_wp2_with (go_at_call 51; (with_reducible refine HT.out.mono ?_); rintro ez w2 ⟨rfl, hB2⟩; have HY := Lib.hid (HX.out w2 hB2); clear hB2)
    obtain ⟨X, hXe, hXb, hXA, hXg, x3⟩ := HY.out
    rw [← hXe]
    clear hXe HY
    generalize w2.heap.size = g at *
    have d0 := hXA.cell 0
    have d1 := hXA.cell 1
    simp only [List.getElem?_cons_zero, List.getElem?_cons_succ] at d0 d1
    have HA1 := Lib.hid (HADD.out X g hXb hXA hXg)
    clear hXA
    go_still_tail 8, (by kernel_rfl)
    change wpList _ _ _ _ _ (World.drew X)
    generalize World.drew X = X2 at HA1 ⊢
    go_wp2_with (go_at_call 52; (with_reducible refine HA1.out.mono ?_); rintro ez w4 ⟨⟨x, rfl⟩, va', hOm4, hA4, x4⟩; have HC4 := Lib.hid (HCUT.out w4 va' g hOm4); have e0 := hA4.cell 0; have e1 := hA4.cell 1; simp only [List.getElem?_cons_zero, List.getElem?_cons_succ] at e0 e1; clear hA4)
    go_still_tail 8, (by kernel_rfl)
    change wpList _ _ _ _ _ (World.drew w4)
    generalize World.drew w4 = X4 at HC4 ⊢
    go_wp2_with (first
      | (go_at_call 53; (with_reducible refine HC4.out.mono ?_); rintro ez w5 ⟨rfl, vl', hOm5⟩; have HD5 := Lib.hid (HDROP.out w5 va' vl' hOm5))
      | (go_at_call 54; (with_reducible refine HD5.out.mono ?_); rintro ez w6 ⟨rfl, vw', hOm6, x7⟩; obtain ⟨y1, y2, y3, y4⟩ := HST.out w6 va' vl' vw' hOm6; have HE6 := Lib.hid (HEND.out w6 va' vl' vw' hOm6)))
    go_end0
    exact HE6.out.1 (by trivial)
  · rw [Bool.true_and] at HEND
    cases en
    · go_enter Tryz.func39, Tryz.ntmps39
      go_wp2_with (go_at_call 51; (with_reducible refine HT.out.mono ?_); rintro ez w2 ⟨rfl, hB2⟩; have HY := Lib.hid (HX.out w2 hB2); clear hB2)
      obtain ⟨X, hXe, hXb, hXA, hXg, x3⟩ := HY.out
      rw [← hXe]
      clear hXe HY
      generalize w2.heap.size = g at *
      have d0 := hXA.cell 0
      have d1 := hXA.cell 1
      simp only [List.getElem?_cons_zero, List.getElem?_cons_succ] at d0 d1
      have HA1 := Lib.hid (HADD.out X g hXb hXA hXg)
      clear hXA
      go_still_tail 8, (by kernel_rfl)
      change wpList _ _ _ _ _ (World.drew X)
      generalize World.drew X = X2 at HA1 ⊢
      go_wp2_with (go_at_call 52; (with_reducible refine HA1.out.mono ?_); rintro ez w4 ⟨⟨x, rfl⟩, va', hOm4, hA4, x4⟩; have HC4 := Lib.hid (HCUT.out w4 va' g hOm4); have e0 := hA4.cell 0; have e1 := hA4.cell 1; simp only [List.getElem?_cons_zero, List.getElem?_cons_succ] at e0 e1; clear hA4)
      go_still_tail 8, (by kernel_rfl)
      change wpList _ _ _ _ _ (World.drew w4)
      generalize World.drew w4 = X4 at HC4 ⊢
      go_wp2_with (first
        | (go_at_call 53; (with_reducible refine HC4.out.mono ?_); rintro ez w5 ⟨rfl, vl', hOm5⟩; have HD5 := Lib.hid (HDROP.out w5 va' vl' hOm5))
        | (go_at_call 54; (with_reducible refine HD5.out.mono ?_); rintro ez w6 ⟨rfl, vw', hOm6, x7⟩; obtain ⟨y1, y2, y3, y4⟩ := HST.out w6 va' vl' vw' hOm6; have HE6 := Lib.hid (HEND.out w6 va' vl' vw' hOm6)))
      go_end0
      exact HE6.out.1 (by trivial)
    · go_enter Tryz.func39, Tryz.ntmps39
      go_wp2_with (go_at_call 51; (with_reducible refine HT.out.mono ?_); rintro ez w2 ⟨rfl, hB2⟩; have HY := Lib.hid (HX.out w2 hB2); clear hB2)
      obtain ⟨X, hXe, hXb, hXA, hXg, x3⟩ := HY.out
      rw [← hXe]
      clear hXe HY
      generalize w2.heap.size = g at *
      have d0 := hXA.cell 0
      have d1 := hXA.cell 1
      simp only [List.getElem?_cons_zero, List.getElem?_cons_succ] at d0 d1
      have HA1 := Lib.hid (HADD.out X g hXb hXA hXg)
      clear hXA
      go_still_tail 8, (by kernel_rfl)
      change wpList _ _ _ _ _ (World.drew X)
      generalize World.drew X = X2 at HA1 ⊢
      go_wp2_with (go_at_call 52; (with_reducible refine HA1.out.mono ?_); rintro ez w4 ⟨⟨x, rfl⟩, va', hOm4, hA4, x4⟩; have HC4 := Lib.hid (HCUT.out w4 va' g hOm4); have e0 := hA4.cell 0; have e1 := hA4.cell 1; simp only [List.getElem?_cons_zero, List.getElem?_cons_succ] at e0 e1; clear hA4)
      go_still_tail 8, (by kernel_rfl)
      change wpList _ _ _ _ _ (World.drew w4)
      generalize World.drew w4 = X4 at HC4 ⊢
      go_wp2_with (first
        | (go_at_call 53; (with_reducible refine HC4.out.mono ?_); rintro ez w5 ⟨rfl, vl', hOm5⟩; have HD5 := Lib.hid (HDROP.out w5 va' vl' hOm5))
        | (go_at_call 54; (with_reducible refine HD5.out.mono ?_); rintro ez w6 ⟨rfl, vw', hOm6, x7⟩; obtain ⟨y1, y2, y3, y4⟩ := HST.out w6 va' vl' vw' hOm6; have HE6 := Lib.hid (HEND.out w6 va' vl' vw' hOm6)))
      go_end0
      exact HE6.out.2 (by trivial)
end
end Go.Proofs.YtbejpafephofaaaGreat
