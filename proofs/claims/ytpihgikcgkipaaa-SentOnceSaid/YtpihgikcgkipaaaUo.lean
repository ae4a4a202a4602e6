/-
  The document's ledger: Ack.
-/
import Derived.Test.YtpihgikcgkipaaaUm
namespace Go.Proofs.Ytpihgikcgkipaaa
set_option linter.unusedVariables false
set_option linter.unusedSimpArgs false
open Go.RowKit
def RAckPost (base q : Nat) (nx ak : Int) (hd : Bool) (v : Value) (l : PL) (rs : RL) (w : World) (e : Ending) (w' : World) : Prop :=
  (¬ MayR rs ∧ e = .returned (.tuple #[.slice none 0 0, .slice none 0 0, .int .i64 1]) ∧ Below w.heap.size w w') ∨
  (MayR rs ∧ ∃ z, rs[rs.length - 1]? = some z ∧ ((nx < z.2 ∧ e = .returned (.tuple #[.slice none 0 0, .slice none 0 0, .int .i64 14]) ∧ Below w.heap.size w w') ∨
    (z.2 ≤ nx ∧ ∃ vg vl vr, e = .returned (.tuple #[vg, vl, .int .i64 0]) ∧
      RV w' base q nx (max ak (z.2 - 1)) true vr ((l.filter (fun r => !hasL rs r.n)).filter (fun r => !decide (r.n + 3 ≤ max ak (z.2 - 1)))) ∧
      OwnP w' w.heap.size vg (l.filter (fun r => hasL rs r.n)) ∧
      OwnP w' w.heap.size vl ((l.filter (fun r => !hasL rs r.n)).filter (fun r => decide (r.n + 3 ≤ max ak (z.2 - 1)))) ∧ Kept (· = q) w w' ∧ ∀ j, vr.ownBlock = some j → w.heap.size ≤ j)))
theorem grown_belowU {B : Nat} {a w1 w2 : World} {v : Value} (hb : Below B a w1) (hB : B ≤ w1.heap.size) (hg : w1.grownBy w2 v.ownBlock) (hv : ∀ k, v.ownBlock = some k → B ≤ k) : Below B a w2 :=
  (Kept.of_grown (S := fun k => v.ownBlock = some k) hg (fun k hk => .inl hk)).below hb hB (fun j hj => hv j hj)
/-- Two rows that do not share a block. -/
def Apart (x y : Value) : Prop := ∀ k, x.ownBlock = some k → y.ownBlock ≠ some k
theorem Apart.symm {x y : Value} (h : Apart x y) : Apart y x := fun k hy hx => h k hx hy
structure T3 (w : World) (B : Nat) (va vb vc : Value) (La Lb Lc : PL) : Prop where
  a : OwnP w B va La
  b : OwnP w B vb Lb
  c : OwnP w B vc Lc
  ab : Apart va vb
  bc : Apart vb vc
  ca : Apart vc va
theorem T3.rot {w : World} {B : Nat} {va vb vc : Value} {La Lb Lc : PL} (h : T3 w B va vb vc La Lb Lc) : T3 w B vb vc va Lb Lc La := ⟨h.b, h.c, h.a, h.bc, h.ca, h.ab⟩
theorem T3.below {w w' : World} {B : Nat} {va vb vc : Value} {La Lb Lc : PL} (h : T3 w B va vb vc La Lb Lc) (k : Below w.heap.size w w') : T3 w' B va vb vc La Lb Lc := ⟨ownG_below h.a k, ownG_below h.b k, ownG_below h.c k, h.ab, h.bc, h.ca⟩
theorem T3.app {w w' : World} {B : Nat} {va vb vc va' : Value} {La Lb Lc La' : PL} (h : T3 w B va vb vc La Lb Lc) (ho : OwnP w' B va' La') (hg : w.grownBy w' va.ownBlock) (hv : va'.ownBlock = va.ownBlock ∨ va'.ownBlock = some w.heap.size) : T3 w' B va' vb vc La' Lb Lc := by
  refine ⟨ho, ownP_other h.b hg h.ab.symm, ownP_other h.c hg h.ca, fun k hk hb => ?_, h.bc, fun k hk ha => ?_⟩
  · rcases hv with h1 | h1
    · rw [h1] at hk; exact h.ab k hk hb
    · rw [h1] at hk
      have e := Option.some.inj hk
      have := (ownG_lt h.b k hb).2
      omega
  · rcases hv with h1 | h1
    · rw [h1] at ha; exact h.ca k hk ha
    · rw [h1] at ha
      have e := Option.some.inj ha
      have := (ownG_lt h.c k hk).2
      omega
section
variable {base q : Nat} {nx ak : Int} {hd : Bool} {v : Value} {l : PL} {w : World}
set_option maxRecDepth 100000 in
set_option maxHeartbeats 8000000 in
theorem rack_any (P : Nat → Prop) (A : Option Addr) (n c : Nat) (rs : RL) (hs : RV w base q nx ak hd v l) (hr : RnP w P A n rs) (hP : ¬ P q) (hnc : n ≤ c) (hcm : c ≤ maxLen) (hn : n ≤ 400000) (hl : l.length ≤ 64) (hg : ∀ r ∈ l, 0 ≤ r.n ∧ r.n < 4611686018427387904 - 1) (h0 : 0 ≤ nx ∧ nx ≤ 4611686018427387904 - 1) (ha : 0 ≤ ak ∧ ak < 4611686018427387904) :
    Calls Try.prog 19 #[.pointer (some ⟨q, 0, none⟩), .slice A n c] w (RAckPost base q nx ak hd v l rs w) := by
  have HS := Lib.hid hs
  have HR := Lib.hid hr
  have HG := Lib.hid hg
  have HLN := Lib.hid hr.len
  have HH0 := Lib.hid h0
  have HHA := Lib.hid ha
  have HCM := Lib.hid hcm
  have hcm' : c ≤ 9223372036854775807 := by unfold maxLen at hcm; omega
  have hql := hs.at_.lt
  clear hs hr hg h0 ha hcm
  go_enter Try.func19, Try.ntmps19
  go_wp2
  go_loopg [7] n (fun kx s7 wr => ∃ (i : Nat), s7 = .int .i64 i ∧ i ≤ n ∧ n - i ≤ kx ∧ Below w.heap.size w wr ∧ ∀ j, j < i → OkAt rs j)
  case atStart => exact ⟨0, rfl, Nat.zero_le _, by omega, Below.refl _ _, fun j h => absurd h (by omega)⟩
  case round =>
    obtain ⟨i, rfl, hin, hkx, hB, hok⟩ := hrel
    by_cases hlt : i < n
    · have hiz : (i : Int) < (n : Int) := by omega
      obtain ⟨r, hi⟩ : ∃ r, rs[i]? = some r := ⟨_, List.getElem?_eq_getElem (by rw [HLN.out]; exact hlt)⟩
      obtain ⟨b, off, rfl, hb, hPb, hc⟩ := (HR.out.below hB).at_ (by omega)
      obtain ⟨x, y⟩ := r
      have h0 := (hc i _ hi).1
      have h1 := (hc i _ hi).2
      simp only at h0 h1
      have HB := Lib.hid hB
      have HK := Lib.hid hok
      have HI := Lib.hid hi
      rcases Nat.eq_zero_or_pos i with h0i | h0i
      · have HI0 := Lib.hid (show decide (0 < i) = false from decide_eq_false (by omega))
        rcases Int.lt_or_le x y with hxy | hxy
        rotate_left
        · have hf : ¬ MayR rs := fun hm => by
            have := (hm.2 i (by have := HLN.out; omega) _ HI.out).1
            simp only at this
            omega
          have HF := Lib.hid hf
          have H0 := Lib.hid h0i
          clear hc hf hok hi hB h0i
          go_wp2
          go_quiet (fail)
          go_wp2
          go_ret3
          exact .inl ⟨HF.out, rfl, belowN HB.out _⟩
        · have hk : ∀ j, j < i + 1 → OkAt rs j := fun j hj r hr => by
            obtain rfl : j = i := by omega
            rw [HI.out] at hr
            injection hr with hr
            subst hr
            exact ⟨hxy, fun s h => absurd h (by omega)⟩
          have HK2 := Lib.hid hk
          have H0 := Lib.hid h0i
          clear hc hk hok hi hB h0i
          have HXN := Lib.hid (show decide (y ≤ x) = false from decide_eq_false (by omega))
          go_wp2
          have hg0 := HI0.out
          have hxn := HXN.out
          go_quiet (fail)
          go_wp2
          go_roundg (n - (i + 1))
          case measure => omega
          case rel => exact ⟨i + 1, by simp, by omega, by omega, belowN HB.out _, HK2.out⟩
      · obtain ⟨⟨x', y'⟩, hj⟩ : ∃ r, rs[i - 1]? = some r := ⟨_, List.getElem?_eq_getElem (by rw [HLN.out]; omega)⟩
        have h3 := (hc (i - 1) _ hj).2
        simp only at h3
        have HJ := Lib.hid hj
        have hiz0 : (0 : Int) < (i : Int) := by omega
        have hwi : IntKind.i64.wrap ((i : Int) - 1) = ((i - 1 : Nat) : Int) := by rw [IntKind.wrap_i64]; omega
        have hjz : ((i - 1 : Nat) : Int) < (n : Int) := by omega
        by_cases hbad : y ≤ x ∨ x ≤ y'
        · have hf : ¬ MayR rs := fun hm => by
            have h4 := hm.2 i (by have := HLN.out; omega) _ HI.out
            have h5 := h4.1
            have h6 := h4.2 _ h0i HJ.out
            simp only at h5 h6
            omega
          have HF := Lib.hid hf
          clear hc hf hok hi hB hj
          rcases Int.lt_or_le x y with hxy | hxy
          · have hxy' : x ≤ y' := by omega
            have HXN := Lib.hid (show decide (y ≤ x) = false from decide_eq_false (by omega))
            clear hbad
            go_wp2
            have hxn := HXN.out
            go_quiet (fail)
            go_wp2
            go_ret3
            exact .inl ⟨HF.out, rfl, belowN HB.out _⟩
          · clear hbad
            go_wp2
            go_quiet (fail)
            go_wp2
            go_ret3
            exact .inl ⟨HF.out, rfl, belowN HB.out _⟩
        · have hxy : x < y := by omega
          have hxy' : y' < x := by omega
          have hk : ∀ j, j < i + 1 → OkAt rs j := fun j hj r hr => by
            rcases Nat.lt_or_ge j i with h | h
            · exact HK.out j h r hr
            · obtain rfl : j = i := by omega
              rw [HI.out] at hr
              injection hr with hr
              subst hr
              refine ⟨hxy, fun s _ hs => ?_⟩
              rw [HJ.out] at hs
              injection hs with hs
              subst hs
              exact hxy'
          have HK2 := Lib.hid hk
          have HXN := Lib.hid (show decide (y ≤ x) = false from decide_eq_false (by omega))
          have HXM := Lib.hid (show decide (x ≤ y') = false from decide_eq_false (by omega))
          clear hc hk hok hi hB hj hbad
          go_wp2
          have hxn := HXN.out
          have hxm := HXM.out
          go_quiet (fail)
          go_wp2
          go_roundg (n - (i + 1))
          case measure => omega
          case rel => exact ⟨i + 1, by simp, by omega, by omega, belowN HB.out _, HK2.out⟩
    · obtain rfl : i = n := by omega
      have hiz : ¬ (i : Int) < (i : Int) := by omega
      have HB := Lib.hid hB
      rcases Nat.eq_zero_or_pos i with h0i | h0i
      · subst h0i
        have hf : ¬ MayR rs := fun hm => hm.1 (List.eq_nil_of_length_eq_zero HLN.out)
        have HF := Lib.hid hf
        clear hf hok hB
        go_wp2
        go_ret3
        exact .inl ⟨HF.out, rfl, HB.out⟩
      · have hm : MayR rs := ⟨fun h => by have := HLN.out; rw [h] at this; simp at this; omega, fun j hj => hok j (by have := HLN.out; omega)⟩
        have HMR := Lib.hid hm
        obtain ⟨b, off, rfl, hbl, hbp, hbc⟩ := HR.out.at_ h0i
        obtain ⟨⟨z1, z⟩, hz⟩ : ∃ z, rs[rs.length - 1]? = some z := ⟨_, List.getElem?_eq_getElem (by rw [HLN.out]; omega)⟩
        have hzc := (hbc (i - 1) _ (by rw [← HLN.out]; exact hz)).2
        simp only at hzc
        have hzo : z1 < z ∧ 0 ≤ z1 := by
          have h1 := (HMR.out.2 _ (by rw [HLN.out]; omega) _ hz).1
          have h2 := HR.out.wd _ (List.mem_of_getElem? hz)
          exact ⟨h1, h2.1⟩
        have HZ := Lib.hid hz
        have hs1 := HS.out.below hB
        have z1c := (hB.cell (p := ⟨b, off + (i - 1) * 2 + 1, none⟩) hbl).trans hzc
        have l1 := hs1.at_.cell 1
        have l2 := hs1.at_.cell 2
        have l3 := hs1.at_.cell 3
        have f2 := hs1.at_.frozen 2
        have f3 := hs1.at_.frozen 3
        have HS1 := Lib.hid hs1
        clear hm hbc hz hzc hs1 hok hB
        have hnz : ¬ (i : Int) = 0 := by omega
        have hnz' : ¬ i = 0 := by omega
        have hwi : IntKind.i64.wrap ((i : Int) - 1) = ((i - 1 : Nat) : Int) := by rw [IntKind.wrap_i64]; omega
        have hjz : ((i - 1 : Nat) : Int) < (i : Int) := by omega
        by_cases hc : z ≤ nx
        rotate_left
        · have hc' : nx < z := by omega
          clear hc
          go_wp2
          go_ret3
          exact .inr ⟨HMR.out, _, HZ.out, .inl ⟨hc', rfl, HB.out⟩⟩
        · have HC := Lib.hid hc
          have hc' : ¬ nx < z := by omega
          have hwz : IntKind.u64.wrap (z - 1) = z - 1 := by rw [IntKind.wrap_u64]; have := HH0.out; omega
          obtain ⟨M, hM⟩ : ∃ M, (if ak < z - 1 then z - 1 else ak) = M := ⟨_, rfl⟩
          have HMX := Lib.hid (show max ak (z - 1) = M by rw [← hM]; split <;> omega)
          have hMb : 0 ≤ M ∧ M < 4611686018427387904 := by have := HHA.out; have := HH0.out; have := HMX.out; omega
          go_wp2
          clear hM
          generalize hW : World.setCell _ _ (Value.bool true) = W
          have hk1 : Kept (· = q) wr W := by subst hW; exact ((Kept.refl _ _).setAt _ _).setAt _ _
          have hs2 : RV W base q nx M true v l := by
            have a1 := (HS1.out.at_.set 2 (.int .u64 M)).set 3 (.bool true)
            refine ⟨?_, ownG_kept HS1.out.own hk1 (fun j hj e => HS1.out.ne (by rw [hj, e])), HS1.out.bq⟩
            subst hW
            exact a1
          have hr2 := (HR.out.below HB.out).kept hk1 (fun b hb e => hP (by rw [← e]; exact hb))
          have hwW : Kept (· = q) w W := (Kept.of_below HB.out _).trans hk1
          obtain ⟨Av, cv, rfl, hcv1, hcv2⟩ := ownG_shape hs2.own
          obtain ⟨m, hm⟩ : ∃ m, l.length = m := ⟨_, rfl⟩
          have HLM := Lib.hid hm
          have hm64 : m ≤ 64 := by omega
          have HR2 := Lib.hid hr2
          have HS2 := Lib.hid hs2
          have HWW := Lib.hid hwW
          have hqW := hs2.at_.lt
          clear hW hk1 hs2 hr2 hwW z1c l1 l2 l3 f2 f3 HS1 hm
          go_loopg [9, 10, 11, 12] m (fun kx s9 s10 s11 s12 wr => ∃ (j : Nat) (va vb vc : Value), va = s9 ∧ vb = s10 ∧ vc = s11 ∧ s12 = .int .i64 j ∧ j ≤ m ∧ m - j ≤ kx ∧ Below W.heap.size W wr ∧
            T3 wr W.heap.size va vb vc ((l.take j).filter (fun r => hasL rs r.n)) ((l.take j).filter (fun r => decide (r.n + 3 ≤ M) && !hasL rs r.n)) ((l.take j).filter (fun r => !decide (r.n + 3 ≤ M) && !hasL rs r.n)))
          case atStart => exact ⟨0, _, _, _, rfl, rfl, rfl, rfl, Nat.zero_le _, by omega, Below.refl _ _, ⟨ownP_nil _ _, ownP_nil _ _, ownP_nil _ _, fun k h => (by cases h), fun k h => (by cases h), fun k h => (by cases h)⟩⟩
          case round =>
            obtain ⟨j, va, vb, vc, rfl, rfl, rfl, rfl, hjm, hkx, hBq, hT⟩ := hrel
            have hsq := HS2.out.below hBq
            have cq0 : wr.cell? ⟨q, 0, none⟩ = some (.slice Av l.length cv) := hsq.at_.cell 0
            have cq2 := hsq.at_.cell 2
            rw [HLM.out] at cq0
            by_cases hlt2 : j < m
            · have hjz2 : (j : Int) < (m : Int) := by omega
              obtain ⟨r, hr⟩ : ∃ r, l[j]? = some r := ⟨_, List.getElem?_eq_getElem (by rw [HLM.out]; exact hlt2)⟩
              obtain ⟨g, c2, hgv, hbg, hglt, hpk⟩ := ownP_at hsq.own hr
              injection hgv with e1 e2 e3
              subst e1; subst e3
              clear e2
              have HPK := Lib.hid hpk
              have cn := hpk.cn
              have hrg := HG.out r (List.mem_of_getElem? hr)
              have HHAS := Lib.hid (rhas_any P (some ⟨b, off, none⟩) i c rs r.n wr (HR2.out.below hBq) hnc HCM.out)
              have hf1 := filter_snoc l j r (fun r => hasL rs r.n) hr
              have hf2 := filter_snoc l j r (fun r => decide (r.n + 3 ≤ M) && !hasL rs r.n) hr
              have hf3 := filter_snoc l j r (fun r => !decide (r.n + 3 ≤ M) && !hasL rs r.n) hr
              have hw3 : IntKind.u64.wrap (r.n + 3) = r.n + 3 := by rw [IntKind.wrap_u64]; omega
              have HT := Lib.hid hT
              have HBQ := Lib.hid hBq
              have HF1 := Lib.hid hf1
              have HF2 := Lib.hid hf2
              have HF3 := Lib.hid hf3
              have hlen : ∀ (f : PK → Bool), ((l.take j).filter f).length ≤ 900000 := fun f => by
                have h1 := List.length_filter_le f (l.take j)
                rw [List.length_take] at h1
                omega
              have HLEN := Lib.hid hlen
              clear hsq hpk hr hf1 hf2 hf3 hT hBq hrg hlen
              go_wp2_with fail
              refine HHAS.out.mono ?_
              rintro e wr ⟨rfl, rfl⟩
              cases hfv : hasL rs r.n
              · have HFV := Lib.hid hfv
                clear hfv
                by_cases hgv2 : r.n + 3 ≤ M
                · have HGV := Lib.hid (decide_eq_true hgv2)
                  clear hgv2
                  go_wp2
                  have hgx := HGV.out
                  go_quiet (fail)
                  clear hgx
                  generalize hW3 : World.drewN _ _ = w3
                  have hd3 : Below wr.heap.size wr w3 := by subst hW3; exact belowN (Below.refl _ _) _
                  have HT3 := Lib.hid (HT.out.below hd3)
                  have HBQ3 := Lib.hid (HBQ.out.trans (hd3.mono HBQ.out.size))
                  have HPK3 := Lib.hid (HPK.out.below hglt hd3)
                  have cq3 := (hd3.cell (p := ⟨q, 0, none⟩) (Nat.lt_of_lt_of_le hqW HBQ.out.size)).trans cq0
                  clear hW3 hd3 cq0 cq2 cn
                  have hax : Below w3.heap.size w3 (w3.alloc (.cells (pkC r).toArray 31)) := (Below.refl _ _).alloc (Nat.le_refl _) _
                  have hT2 := (HT3.out.rot).below hax
                  have hB2 := HBQ3.out.alloc HBQ3.out.size (.cells (pkC r).toArray 31)
                  have hF2 := At.new w3 31 (pkC r)
                  have hsz := HBQ3.out.size
                  obtain ⟨g2, hg2⟩ : ∃ x, w3.heap.size = x := ⟨_, rfl⟩
                  obtain ⟨w2, hw2⟩ : ∃ x, w3.alloc (.cells (pkC r).toArray 31) = x := ⟨_, rfl⟩
                  have hs2 : w2.heap.size = g2 + 1 := by rw [← hw2, ← hg2]; simp
                  rw [hw2] at hT2 hB2 hF2
                  rw [hg2] at hF2 hsz
                  have HW2 := Lib.hid hw2
                  have HG2 := Lib.hid hg2
                  have HT2 := Lib.hid hT2
                  have HB2 := Lib.hid hB2
                  have HF2_ := Lib.hid hF2
                  clear hax hT2 hB2 hF2 hw2 hg2
                  go_wp2_with (first | ((with_reducible refine at_ldp ?_); refine ld_pm g (j * 5) r (by rfl) HPK3.out ?_) | (refine wpList_bsp r g2 HG2.out.symm (by rfl) ?_; rw [HW2.out]) | (at_builtin; refine wpList_appendP1 rfl (.tmp 132) (.tmp 140) rfl W.heap.size vb _ rfl HT2.out.a g2 1 r (by rfl) HF2_.out (HLEN.out _) (by omega) ?_; intro v7 w7 hown7 hgr7 hv7) | fail)
                  have hT7 := HT2.out.app hown7 hgr7 hv7
                  have hb7 := grown_belowU HB2.out HB2.out.size hgr7 (fun k hk => (ownG_lt HT2.out.a k hk).1)
                  have H7 := Lib.hid (And.intro hb7 hT7)
                  clear hown7 hgr7 hv7 hT7 hb7 HW2 HG2 hs2 hsz
                  go_wp2_with fail
                  go_roundg (m - (j + 1))
                  case measure => omega
                  case rel =>
                    refine ⟨j + 1, va, v7, vc, rfl, rfl, rfl, by simp, by omega, by omega, H7.out.1, ?_⟩
                    have h8 := H7.out.2.rot.rot
                    rw [HF1.out, HF2.out, HF3.out, HFV.out, HGV.out]
                    simpa using h8
                · have HGV := Lib.hid (decide_eq_false hgv2)
                  clear hgv2
                  go_wp2
                  have hgx := HGV.out
                  go_quiet (fail)
                  clear hgx
                  generalize hW3 : World.drewN _ _ = w3
                  have hd3 : Below wr.heap.size wr w3 := by subst hW3; exact belowN (Below.refl _ _) _
                  have HT3 := Lib.hid (HT.out.below hd3)
                  have HBQ3 := Lib.hid (HBQ.out.trans (hd3.mono HBQ.out.size))
                  have HPK3 := Lib.hid (HPK.out.below hglt hd3)
                  have cq3 := (hd3.cell (p := ⟨q, 0, none⟩) (Nat.lt_of_lt_of_le hqW HBQ.out.size)).trans cq0
                  clear hW3 hd3 cq0 cq2 cn
                  have hax : Below w3.heap.size w3 (w3.alloc (.cells (pkC r).toArray 31)) := (Below.refl _ _).alloc (Nat.le_refl _) _
                  have hT2 := (HT3.out.rot.rot).below hax
                  have hB2 := HBQ3.out.alloc HBQ3.out.size (.cells (pkC r).toArray 31)
                  have hF2 := At.new w3 31 (pkC r)
                  have hsz := HBQ3.out.size
                  obtain ⟨g2, hg2⟩ : ∃ x, w3.heap.size = x := ⟨_, rfl⟩
                  obtain ⟨w2, hw2⟩ : ∃ x, w3.alloc (.cells (pkC r).toArray 31) = x := ⟨_, rfl⟩
                  have hs2 : w2.heap.size = g2 + 1 := by rw [← hw2, ← hg2]; simp
                  rw [hw2] at hT2 hB2 hF2
                  rw [hg2] at hF2 hsz
                  have HW2 := Lib.hid hw2
                  have HG2 := Lib.hid hg2
                  have HT2 := Lib.hid hT2
                  have HB2 := Lib.hid hB2
                  have HF2_ := Lib.hid hF2
                  clear hax hT2 hB2 hF2 hw2 hg2
                  go_wp2_with (first | ((with_reducible refine at_ldp ?_); refine ld_pm g (j * 5) r (by rfl) HPK3.out ?_) | (refine wpList_bsp r g2 HG2.out.symm (by rfl) ?_; rw [HW2.out]) | (at_builtin; refine wpList_appendP1 rfl (.tmp 86) (.tmp 94) rfl W.heap.size vc _ rfl HT2.out.a g2 1 r (by rfl) HF2_.out (HLEN.out _) (by omega) ?_; intro v7 w7 hown7 hgr7 hv7) | fail)
                  have hT7 := HT2.out.app hown7 hgr7 hv7
                  have hb7 := grown_belowU HB2.out HB2.out.size hgr7 (fun k hk => (ownG_lt HT2.out.a k hk).1)
                  have H7 := Lib.hid (And.intro hb7 hT7)
                  clear hown7 hgr7 hv7 hT7 hb7 HW2 HG2 hs2 hsz
                  go_wp2_with fail
                  go_roundg (m - (j + 1))
                  case measure => omega
                  case rel =>
                    refine ⟨j + 1, va, vb, v7, rfl, rfl, rfl, by simp, by omega, by omega, H7.out.1, ?_⟩
                    have h8 := H7.out.2.rot
                    rw [HF1.out, HF2.out, HF3.out, HFV.out, HGV.out]
                    simpa using h8
              · have HFV := Lib.hid hfv
                clear hfv
                have hax : Below wr.heap.size wr (wr.alloc (.cells (pkC r).toArray 31)) := (Below.refl _ _).alloc (Nat.le_refl _) _
                have hT2 := (HT.out).below hax
                have hB2 := HBQ.out.alloc HBQ.out.size (.cells (pkC r).toArray 31)
                have hF2 := At.new wr 31 (pkC r)
                have hsz := HBQ.out.size
                obtain ⟨g2, hg2⟩ : ∃ x, wr.heap.size = x := ⟨_, rfl⟩
                obtain ⟨w2, hw2⟩ : ∃ x, wr.alloc (.cells (pkC r).toArray 31) = x := ⟨_, rfl⟩
                have hs2 : w2.heap.size = g2 + 1 := by rw [← hw2, ← hg2]; simp
                rw [hw2] at hT2 hB2 hF2
                rw [hg2] at hF2 hsz
                have HW2 := Lib.hid hw2
                have HG2 := Lib.hid hg2
                have HT2 := Lib.hid hT2
                have HB2 := Lib.hid hB2
                have HF2_ := Lib.hid hF2
                clear hax hT2 hB2 hF2 hw2 hg2
                go_wp2_with (first | ((with_reducible refine at_ldp ?_); refine ld_pm g (j * 5) r (by rfl) HPK.out ?_) | (refine wpList_bsp r g2 HG2.out.symm (by rfl) ?_; rw [HW2.out]) | (at_builtin; refine wpList_appendP1 rfl (.tmp 107) (.tmp 115) rfl W.heap.size va _ rfl HT2.out.a g2 1 r (by rfl) HF2_.out (HLEN.out _) (by omega) ?_; intro v7 w7 hown7 hgr7 hv7) | fail)
                have hT7 := HT2.out.app hown7 hgr7 hv7
                have hb7 := grown_belowU HB2.out HB2.out.size hgr7 (fun k hk => (ownG_lt HT2.out.a k hk).1)
                have H7 := Lib.hid (And.intro hb7 hT7)
                clear hown7 hgr7 hv7 hT7 hb7 HW2 HG2 hs2 hsz
                go_wp2_with fail
                go_roundg (m - (j + 1))
                case measure => omega
                case rel =>
                  refine ⟨j + 1, v7, vb, vc, rfl, rfl, rfl, by simp, by omega, by omega, H7.out.1, ?_⟩
                  have h8 := H7.out.2
                  rw [HF1.out, HF2.out, HF3.out, HFV.out]
                  simpa using h8
            · obtain rfl : j = m := by omega
              have ht : l.take j = l := List.take_of_length_le (by rw [HLM.out]; omega)
              rw [ht] at hT
              have hjz2 : ¬ (j : Int) < (j : Int) := by omega
              have fq0 := hsq.at_.frozen 0
              have hk9 : Kept (· = q) wr (wr.setCell ⟨q, 0, none⟩ vc) := (Kept.refl _ _).setAt _ _
              have hne : ∀ {x : Value} {L : PL}, OwnP wr W.heap.size x L → ∀ k, x.ownBlock = some k → ¬ k = q := fun h k hk e => by have := (ownG_lt h k hk).1; omega
              have hR9 : RV (wr.setCell ⟨q, 0, none⟩ vc) base q nx M true vc (l.filter (fun r => !decide (r.n + 3 ≤ M) && !hasL rs r.n)) :=
                ⟨hsq.at_.set 0 vc, ownG_base (ownG_kept hT.c hk9 (hne hT.c)) (by have := hsq.bq; omega), hsq.bq⟩
              have ha9 := ownG_kept hT.a hk9 (hne hT.a)
              have hb9 := ownG_kept hT.b hk9 (hne hT.b)
              have hkf := (HWW.out.trans' (Kept.of_below hBq (fun _ => False)) (fun j hj => hj.elim)).trans hk9
              have hfr9 : ∀ j, vc.ownBlock = some j → w.heap.size ≤ j := fun j hj => Nat.le_trans HWW.out.size (ownG_lt hT.c j hj).1
              have H9 := Lib.hid (And.intro hR9 (And.intro ha9 (And.intro hb9 (And.intro hkf hfr9))))
              obtain ⟨A3, c3, rfl, _, _⟩ := ownG_shape hT.c
              have HWZ := Lib.hid HWW.out.size
              clear hT hsq hBq hk9 hne hR9 ha9 hb9 hkf hfr9 ht
              go_wp2
              go_ret3
              refine .inr ⟨HMR.out, _, HZ.out, .inr ⟨HC.out, va, vb, (.slice A3 (l.filter (fun r => !decide (r.n + 3 ≤ M) && !hasL rs r.n)).length c3), rfl, ?_⟩⟩
              simp only
              rw [HMX.out, List.filter_filter, List.filter_filter]
              exact ⟨H9.out.1, ownG_base H9.out.2.1 HWZ.out, ownG_base H9.out.2.2.1 HWZ.out, H9.out.2.2.2.1, H9.out.2.2.2.2⟩
end
end Go.Proofs.Ytpihgikcgkipaaa
