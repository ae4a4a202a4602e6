/-
  Set's Add.
-/
import Derived.Test.YtndaikeeikimeaaMq3
namespace Go.Proofs.Ytndaikeeikimeaa
set_option linter.unusedVariables false
set_option linter.unusedSimpArgs false
open Go.RowKit
theorem setpost_same {w w' : World} {base p : Nat} {most : Int} {v : Value} {l : RL} (hs : SetV w base p most v l) (hB : Below w.heap.size w w') (r : Value) : SetPost r base p most v l w (.returned r) w' :=
  ⟨rfl, v, hs.below hB, Kept.of_below hB _, fun k hk => .inl hk⟩
theorem add_no (base p : Nat) (most : Int) (v : Value) (l : RL) (w : World) (hs : SetV w base p most v l) (lo hi : Int) (h : ¬ (lo < hi ∧ hi ≤ 4611686018427387904)) :
    Calls Try.prog 62 #[.pointer (some ⟨p, 0, none⟩), .int .u64 lo, .int .u64 hi] w (SetPost (.bool false) base p most v l w) := by
  have HP := Lib.hid (fun w' hB => setpost_same (w' := w') hs hB (.bool false))
  clear hs
  by_cases h1 : lo < hi
  · have h2 : 4611686018427387904 < hi := by omega
    clear h
    go_enter Try.func62, Try.ntmps62
    go_wp2
    go_ret
    exact HP.out _ (((Below.refl _ _).alloc (Nat.le_refl _) _).alloc (by simp) _)
  · clear h
    go_enter Try.func62, Try.ntmps62
    go_wp2
    go_ret
    exact HP.out _ (((Below.refl _ _).alloc (Nat.le_refl _) _).alloc (by simp) _)
theorem cell_two (w : World) (x y : Value) (T : TypeId) : ((w.alloc (.cells #[x] T)).alloc (.cells #[y] T)).cell? ⟨w.heap.size, 0, none⟩ = some x ∧ ((w.alloc (.cells #[x] T)).alloc (.cells #[y] T)).cell? ⟨w.heap.size + 1, 0, none⟩ = some y := by
  constructor
  · rw [World.cell?_of_block (Below.heap_alloc _ _ _ (by simp)), cell_of_row _ _ _ _ _ _ (heap_alloc_new w _)]
    rfl
  · have := heap_alloc_new (w.alloc (.cells #[x] T)) (.cells #[y] T)
    rw [World.size_alloc] at this
    rw [cell_of_row _ _ _ _ _ _ this]
    rfl
theorem add_post {w WA w7 w8 : World} {base p : Nat} {most : Int} {v v7 : Value} {L' : RL} (hBA : Below w.heap.size w WA) (hs7 : SetV w7 base p most v7 L') (hk7 : Kept (fun b => b = p ∨ v.ownBlock = some b) WA w7)
    (hv7 : ∀ k, v7.ownBlock = some k → v.ownBlock = some k ∨ WA.heap.size ≤ k) (hB8 : Below w7.heap.size w7 w8) (r : Value) : SetPost r base p most v L' w (.returned r) w8 :=
  ⟨rfl, v7, hs7.below hB8, ((Kept.of_below hBA _).trans hk7).trans' (Kept.of_below hB8 (fun _ => False)) (fun _ h => h.elim), fun k hk => (hv7 k hk).elim .inl fun h => .inr (Nat.le_trans hBA.size h)⟩
/-- What stands between: the range that is being made, in block g, the two numbers in theirs. -/
structure Mid (w : World) (lo hi : Int) (g : Nat) (a b : Int) (W : World) : Prop where
  bw : Below w.heap.size w W
  c4 : W.cell? ⟨w.heap.size, 0, none⟩ = some (.int .u64 lo)
  c5 : W.cell? ⟨w.heap.size + 1, 0, none⟩ = some (.int .u64 hi)
  ag : At W g 105 [.int .u64 a, .int .u64 b]
  gg : w.heap.size + 1 < g
theorem Mid.drew {w W : World} {lo hi a b : Int} {g : Nat} (h : Mid w lo hi g a b W) : Mid w lo hi g a b W.drew := ⟨h.bw.drew, h.c4, h.c5, h.ag.drew, h.gg⟩
theorem Mid.set0 {w W : World} {lo hi a b : Int} {g : Nat} (h : Mid w lo hi g a b W) (x : Int) : Mid w lo hi g x b (W.setCell ⟨g, 0, none⟩ (.int .u64 x)) :=
  ⟨h.bw.setCell (by have := h.gg; show w.heap.size ≤ g; omega) _, (World.cell?_of_block (Below.heap_setCell W ⟨g, 0, none⟩ _ w.heap.size (by have := h.gg; show w.heap.size ≠ g; omega))).trans h.c4,
    (World.cell?_of_block (Below.heap_setCell W ⟨g, 0, none⟩ _ (w.heap.size + 1) (by have := h.gg; show w.heap.size + 1 ≠ g; omega))).trans h.c5, h.ag.set 0 _, h.gg⟩
theorem Mid.set1 {w W : World} {lo hi a b : Int} {g : Nat} (h : Mid w lo hi g a b W) (x : Int) : Mid w lo hi g a x (W.setCell ⟨g, 1, none⟩ (.int .u64 x)) :=
  ⟨h.bw.setCell (by have := h.gg; show w.heap.size ≤ g; omega) _, (World.cell?_of_block (Below.heap_setCell W ⟨g, 1, none⟩ _ w.heap.size (by have := h.gg; show w.heap.size ≠ g; omega))).trans h.c4,
    (World.cell?_of_block (Below.heap_setCell W ⟨g, 1, none⟩ _ (w.heap.size + 1) (by have := h.gg; show w.heap.size + 1 ≠ g; omega))).trans h.c5, h.ag.set 1 _, h.gg⟩
set_option maxHeartbeats 4000000 in
set_option maxRecDepth 100000 in
theorem add_yes (base p : Nat) (most : Int) (v : Value) (l : RL) (w : World) (hs : SetV w base p most v l) (hn : l.length ≤ 1000000) (hg : Gd l) (hb : base ≤ w.heap.size) (hm : 1 ≤ most ∧ most < 9223372036854775808)
    (lo hi : Int) (h0 : 0 ≤ lo) (hlt : lo < hi) (hh : hi ≤ 4611686018427387904) (hn' : (addL l lo hi most).length ≤ 2000000) :
    Calls Try.prog 62 #[.pointer (some ⟨p, 0, none⟩), .int .u64 lo, .int .u64 hi] w (SetPost (.bool (hasL (addL l lo hi most) lo)) base p most v (addL l lo hi most) w) := by
  have HG' := Lib.hid (addL_gd hg most h0 hlt hh)
  have HN' := Lib.hid hn'
  clear hn'
  obtain ⟨A, B, C, s⟩ := add_split hg hlt
  have he : addL l lo hi most = lst most (l.take A.length ++ [growR (lo, hi) B] ++ l.drop (A.length + B.length)) := by
    obtain ⟨rfl, ha, hb, hc⟩ := s
    unfold addL
    rw [addGo_abc A B C (lo, hi) hg ha hb hc hlt, List.take_left, ← List.append_assoc A B C, List.drop_left' (by simp), List.append_assoc]
    rfl
  have hll : A.length + B.length ≤ l.length := by rw [s.e]; simp
  have hx := s.gd hg h0 hlt hh
  have hxo := hx.wd (growR (lo, hi) B) (List.mem_append_right _ (List.mem_cons_self ..))
  have hgB : Gd B := (gd_app.1 (gd_app.1 (s.e ▸ hg)).2.1).1
  have q1 : ∀ t r, t < A.length → l[t]? = some r → decide (lo ≤ r.2) = false := fun t r ht hr => by
    have := s.a r (idx_left (s.e ▸ hr) ht)
    simp; omega
  have q2 : ∀ t r, A.length ≤ t → l[t]? = some r → decide (lo ≤ r.2) = true := fun t r ht hr => by
    have hm := idx_right (s.e ▸ hr) ht
    have hok := hg.1 r (List.mem_of_getElem? hr)
    unfold OkR at hok
    rcases List.mem_append.1 hm with h | h
    · have := s.b r h
      simp; omega
    · have := s.c r h
      simp; omega
  have e2 : l = (A ++ B) ++ C := by rw [s.e, List.append_assoc]
  have q3 : ∀ t r, t < A.length + B.length → l[t]? = some r → decide (hi < r.1) = false := fun t r ht hr => by
    have hm := idx_left (e2 ▸ hr) (by simpa using ht)
    have hok := hg.1 r (List.mem_of_getElem? hr)
    unfold OkR at hok
    rcases List.mem_append.1 hm with h | h
    · have := s.a r h
      simp; omega
    · have := s.b r h
      simp; omega
  have q4 : ∀ t r, A.length + B.length ≤ t → l[t]? = some r → decide (hi < r.1) = true := fun t r ht hr => by
    have := s.c r (idx_right (e2 ▸ hr) (by simpa using ht))
    simp; omega
  have hgrow : (B.length = 0 ∧ growR (lo, hi) B = (lo, hi)) ∨ ∃ b c, l[A.length]? = some b ∧ l[A.length + B.length - 1]? = some c ∧ 0 < B.length ∧ growR (lo, hi) B = (min lo b.1, max hi c.2) := by
    cases hB : B with
    | nil => exact .inl ⟨rfl, rfl⟩
    | cons b t =>
      right
      obtain ⟨c, hc⟩ : ∃ c, B.getLast? = some c := ⟨B.getLast (by rw [hB]; simp), List.getLast?_eq_some_getLast _⟩
      refine ⟨b, c, ?_, ?_, by simp, ?_⟩
      · rw [s.e, List.getElem?_append_right (Nat.le_refl _), Nat.sub_self, hB]; rfl
      · rw [← hB, e2, List.getElem?_append_left (by rw [hB]; simp), List.getElem?_append_right (by rw [hB]; simp)]
        rw [show A.length + B.length - 1 - A.length = B.length - 1 by omega, ← List.getLast?_eq_getElem?]
        exact hc
      · rw [hB] at hgB hc
        have h1 := growR_fst t (lo, hi) b hgB
        have h2 := growR_snd (b :: t) (lo, hi) c hgB hc
        exact Prod.ext h1 h2
  rw [he] at HG' HN' ⊢
  clear he s hx hg hgB e2
  generalize A.length = i at *
  generalize B.length = d at *
  generalize hj : i + d = j at *
  generalize growR (lo, hi) B = x at *
  generalize hL' : lst most (l.take i ++ [x] ++ l.drop j) = L' at *
  -- the worlds
  obtain ⟨w2, hw2⟩ : ∃ w2, w2 = (w.alloc (.cells #[.int .u64 lo] 22)).alloc (.cells #[.int .u64 hi] 22) := ⟨_, rfl⟩
  have hB2 : Below w.heap.size w w2 := by rw [hw2]; exact ((Below.refl _ w).alloc (Nat.le_refl _) _).alloc (by simp) _
  have hsz : w2.heap.size = w.heap.size + 1 + 1 := by rw [hw2]; simp
  have hc12 := cell_two w (.int .u64 lo) (.int .u64 hi) 22
  rw [← hw2] at hc12
  have eg1 : ∀ args w, (callFunc 65 args).run Try.prog w = .ok (.enter 65 args) w := enters_of Try.func65 (by kernel_rfl) rfl
  have eg2 : ∀ args w, (callFunc 66 args).run Try.prog w = .ok (.enter 66 args) w := enters_of Try.func66 (by kernel_rfl) rfl
  have hs2 := hs.below hB2
  have HF1 := Lib.hid (first_any p base most v l 65 #[.pointer (some ⟨w.heap.size, 0, none⟩)] (fun r => decide (lo ≤ r.2)) i w2 hs2 (by omega) eg1
    (fun W hW r _ => cl_add1 w.heap.size lo r.1 r.2 W (by have := hW.size; omega) ((hW.cell (p := ⟨w.heap.size, 0, none⟩) (show w.heap.size < w2.heap.size by omega)).trans hc12.1))
    (by omega) q1 q2)
  have HF2 := Lib.hid (fun w3 (hB : Below w2.heap.size w2 w3) => first_any p base most v l 66 #[.pointer (some ⟨w.heap.size + 1, 0, none⟩)] (fun r => decide (hi < r.1)) j w3 (hs2.below hB) (by omega) eg2
    (fun W hW r _ => cl_add2 (w.heap.size + 1) hi r.1 r.2 W (by have := hW.size; have := hB.size; omega) ((hW.cell (p := ⟨w.heap.size + 1, 0, none⟩) (show w.heap.size + 1 < w3.heap.size by have := hB.size; omega)).trans ((hB.cell (p := ⟨w.heap.size + 1, 0, none⟩) (show w.heap.size + 1 < w2.heap.size by omega)).trans hc12.2)))
    hll q3 q4)
  have HS := Lib.hid hs
  have HL' := Lib.hid hL'
  have HW2 := Lib.hid hw2
  have HB2 := Lib.hid hB2
  have HC := Lib.hid hc12
  have HSZ := Lib.hid hsz
  have HJ := Lib.hid hj
  have HR := Lib.hid (fun W (hB : Below w.heap.size w W) => replace_any base W.heap.size p most v (.slice (some ⟨W.heap.size, 0, none⟩) 1 1) l [x] i j (W.alloc (.cells #[.int .u64 x.1, .int .u64 x.2] 105)) (hs.below (hB.alloc hB.size _))
    (OwnL.one W W.heap.size W.heap.size x.1 x.2 rfl (Nat.le_refl _) (WdL.one hxo.1 hxo.2.1 hxo.2.2.1 hxo.2.2.2)) (fun k hk e => by have h1 := (hs.own.lt k hk).2; have h2 := hB.size; have h3 : W.heap.size = k := Option.some.inj e; omega) (by omega) hll (by simp; omega) (by have := hB.size; simp; omega) hm)
  have hpl := hs.at_.lt
  have HVL := Lib.hid (fun h => (hs.own.lt w.heap.size h).2)
  rw [hL'] at HR
  clear q1 q2 q3 q4 hs hs2 hw2 hB2 hc12 hsz eg1 eg2 hj hL' hxo
  rcases hgrow with ⟨rfl, rfl⟩ | ⟨b, c, hib, hic, hd0, rfl⟩
  · have hij : ¬ (i : Int) < (j : Int) := by have := HJ.out; omega
    try simp only at HR
    obtain ⟨HR', HRT⟩ : Hid (∀ W, Below w.heap.size w W → Calls Try.prog 67 #[.pointer (some ⟨p, 0, none⟩), .int .i64 i, .int .i64 j, .slice (some ⟨W.heap.size, 0, none⟩) 1 1] (W.alloc (.cells #[.int .u64 lo, .int .u64 hi] 105)) (SetPost (.tuple #[]) base p most v L' (W.alloc (.cells #[.int .u64 lo, .int .u64 hi] 105)))) ∧ True := ⟨HR, trivial⟩
    clear HRT HR
    have HR := HR'
    clear HR'
    have HMF := Lib.hid (fun w4 (hB4 : Below w2.heap.size w2 w4) => show Mid w lo hi w4.heap.size lo hi (w4.alloc (.cells #[.int .u64 lo, .int .u64 hi] 105)) from by
      have h2 := hB4.size
      have h3 := HSZ.out
      have hlt0 : w.heap.size < w4.heap.size := by omega
      exact ⟨(HB2.out.trans (hB4.mono HB2.out.size)).alloc (by omega) _, (World.cell?_of_block (Below.heap_alloc w4 _ w.heap.size hlt0)).trans ((hB4.cell (p := ⟨w.heap.size, 0, none⟩) (show w.heap.size < w2.heap.size by omega)).trans HC.out.1), (World.cell?_of_block (Below.heap_alloc w4 _ (w.heap.size + 1) (by omega))).trans ((hB4.cell (p := ⟨w.heap.size + 1, 0, none⟩) (show w.heap.size + 1 < w2.heap.size by omega)).trans HC.out.2), At.new w4 _ [.int .u64 lo, .int .u64 hi], by omega⟩)
    go_enter Try.func62, Try.ntmps62
    go_wp2_with (first
      | (go_at_call 63; rw [← HW2.out]; refine HF1.out.mono ?_; rintro e w3 ⟨rfl, hB3⟩; have HB3 := Lib.hid hB3; clear hB3)
      | (go_at_call 63; refine (HF2.out _ HB3.out).mono ?_; rintro e w4 ⟨rfl, hB4⟩; have hB4' := HB3.out.trans (hB4.mono HB3.out.size); have c4 := (hB4'.cell (p := ⟨w.heap.size, 0, none⟩) (show w.heap.size < w2.heap.size by have := HSZ.out; omega)).trans HC.out.1; have c5 := (hB4'.cell (p := ⟨w.heap.size + 1, 0, none⟩) (show w.heap.size + 1 < w2.heap.size by have := HSZ.out; omega)).trans HC.out.2; have HB4 := Lib.hid hB4'; have hM := HMF.out w4 hB4'; have hRW := HR.out _ hM.bw; rw [World.size_alloc] at hRW; have HRW := Lib.hid hRW; clear hRW; have hltW : w.heap.size < (w4.alloc (.cells #[.int .u64 lo, .int .u64 hi] 105)).heap.size := (by have h1 := hM.ag.lt; have h2 := hM.gg; omega); have HC4 := Lib.hid ((World.cell?_of_block (Below.heap_alloc (w4.alloc (.cells #[.int .u64 lo, .int .u64 hi] 105)) (.cells #[.int .u64 lo, .int .u64 hi] 105) w.heap.size hltW)).trans hM.c4); have HLW := Lib.hid (show w.heap.size < ((w4.alloc (.cells #[.int .u64 lo, .int .u64 hi] 105)).alloc (.cells #[.int .u64 lo, .int .u64 hi] 105)).heap.size by rw [World.size_alloc]; omega); have HBA := Lib.hid (hM.bw.alloc hM.bw.size (.cells #[.int .u64 lo, .int .u64 hi] 105)); clear hltW hM hB4 hB4')
      | (go_at_call 67; refine HRW.out.mono ?_; rintro e w7 ⟨rfl, v7, hs7, hk7, hv7⟩; have c47 := (hk7.cell (p := ⟨w.heap.size, 0, none⟩) HLW.out (fun h => h.elim (fun h => (Nat.ne_of_gt hpl) h) fun h => Nat.lt_irrefl _ (HVL.out h))).trans HC4.out; have HS7 := Lib.hid hs7; clear hs7; have HK7 := Lib.hid hk7; clear hk7; have HV7 := Lib.hid hv7; clear hv7)
      | (go_at_call 68; refine (has_any' base p most v7 L' w7 HS7.out HN'.out HG'.out lo).mono ?_; rintro e w8 ⟨rfl, hB8⟩))
    go_ret
    exact add_post HBA.out HS7.out HK7.out HV7.out hB8 _
  · have hij : (i : Int) < (j : Int) := by have := HJ.out; omega
    go_enter Try.func62, Try.ntmps62
    go_wp2_with (first
      | (go_at_call 63; rw [← HW2.out]; refine HF1.out.mono ?_; rintro e w3 ⟨rfl, hB3⟩; have HB3 := Lib.hid hB3; clear hB3)
      | (go_at_call 63; refine (HF2.out _ HB3.out).mono ?_; rintro e w4 ⟨rfl, hB4⟩; have hB4' := HB3.out.trans (hB4.mono HB3.out.size); have c4 := (hB4'.cell (p := ⟨w.heap.size, 0, none⟩) (show w.heap.size < w2.heap.size by have := HSZ.out; omega)).trans HC.out.1; have c5 := (hB4'.cell (p := ⟨w.heap.size + 1, 0, none⟩) (show w.heap.size + 1 < w2.heap.size by have := HSZ.out; omega)).trans HC.out.2; have HB4 := Lib.hid hB4'; clear hB4 hB4'))
    obtain ⟨W5, hW5⟩ : ∃ W, w4.alloc (.cells #[.int .u64 lo, .int .u64 hi] 105) = W := ⟨_, rfl⟩
    have hM5 : Mid w lo hi w4.heap.size lo hi W5 := by
      subst hW5
      have h2 := HB4.out.size
      have h3 := HSZ.out
      have hlt0 : w.heap.size < w4.heap.size := by omega
      exact ⟨(HB2.out.trans (HB4.out.mono HB2.out.size)).alloc (by omega) _, (World.cell?_of_block (Below.heap_alloc w4 _ w.heap.size hlt0)).trans c4, (World.cell?_of_block (Below.heap_alloc w4 _ (w.heap.size + 1) (by omega))).trans c5, At.new w4 _ [.int .u64 lo, .int .u64 hi], by omega⟩
    rw [hW5]
    generalize w4.heap.size = g9 at *
    have hL1 : (l.length : Nat) = l.length := rfl
    have hs5 := HS.out.below hM5.bw
    have hlt5 := (List.getElem?_eq_some_iff.1 hib).1
    obtain ⟨g, cp, rfl, hnc, hcm⟩ := hs5.some_ (by omega)
    have cv := hs5.c1
    have cb := (hs5.el hib).1
    have cc := (hs5.el hic).2
    have c4 := hM5.c4
    have c5 := hM5.c5
    have d0 := hM5.ag.cell 0
    have d1 := hM5.ag.cell 1
    have f0 := hM5.ag.frozen 0
    have f1 := hM5.ag.frozen 1
    simp at d0 d1
    have hiz : (i : Int) < (l.length : Nat) := by omega
    have HM5 := Lib.hid hM5
    clear hM5 hs5 hW5
    obtain ⟨b0, b1⟩ := b
    obtain ⟨c0, c1⟩ := c
    generalize hj1 : j - 1 = j1 at *
    have hw1 : IntKind.i64.wrap ((j : Int) - 1) = (j1 : Int) := by rw [IntKind.wrap_i64]; omega
    have hjz : (j1 : Int) < (l.length : Nat) := by omega
    simp only at *
    have HIC := Lib.hid hic
    have HL1 := Lib.hid hL1
    clear hL1 hic hib hlt5 hj1
    have hll2 := hll
    clear hll
    generalize hnl : l.length = n at *
    have HNL := Lib.hid hnl
    clear hnl
    go_region
    rw [show (if b0 < lo then b0 else lo) = min lo b0 by split <;> omega]
    have hM6 := (HM5.out.set0 (min lo b0)).drew
    clear c4 c5 d0 d1 f0 f1 cv cb cc HM5
    generalize World.drew _ = W6 at *
    have hs6 := HS.out.below hM6.bw
    have cv := hs6.c1
    have cc := (hs6.el HIC.out).2
    have c4 := hM6.c4
    have c5 := hM6.c5
    have d0 := hM6.ag.cell 0
    have d1 := hM6.ag.cell 1
    have f0 := hM6.ag.frozen 0
    have f1 := hM6.ag.frozen 1
    simp at d0 d1
    have HM6 := Lib.hid hM6
    clear hM6 hs6
    generalize min lo b0 = x1 at *
    go_wp2_with fail
    go_region
    rw [show (if hi < c1 then c1 else hi) = max hi c1 by split <;> omega]
    have hM7 := (HM6.out.set1 (max hi c1)).drew
    clear c4 c5 d0 d1 f0 f1 cv cc HM6
    generalize World.drew _ = W7 at *
    generalize max hi c1 = x2 at *
    try simp only at HR
    have hltW : w.heap.size < W7.heap.size := by have h1 := hM7.ag.lt; have h2 := hM7.gg; omega
    have c4A := (World.cell?_of_block (Below.heap_alloc W7 (.cells #[.int .u64 x1, .int .u64 x2] 105) w.heap.size hltW)).trans hM7.c4
    have HBA := Lib.hid (hM7.bw.alloc hM7.bw.size (.cells #[.int .u64 x1, .int .u64 x2] 105))
    have HC4 := Lib.hid c4A
    have hRW := HR.out W7 hM7.bw
    try simp only at hRW
    have HRW := Lib.hid hRW
    have HLW := Lib.hid (show w.heap.size < (W7.alloc (.cells #[.int .u64 x1, .int .u64 x2] 105)).heap.size by simp; omega)
    clear c4A hRW
    have d0 := hM7.ag.cell 0
    have d1 := hM7.ag.cell 1
    simp at d0 d1
    clear hM7
    go_wp2_with (first
      | (go_at_call 67; refine HRW.out.mono ?_; rintro e w7 ⟨rfl, v7, hs7, hk7, hv7⟩; have c47 := (hk7.cell (p := ⟨w.heap.size, 0, none⟩) HLW.out (fun h => h.elim (fun h => (Nat.ne_of_gt hpl) h) fun h => Nat.lt_irrefl _ (HVL.out h))).trans HC4.out; have HS7 := Lib.hid hs7; clear hs7; have HK7 := Lib.hid hk7; clear hk7; have HV7 := Lib.hid hv7; clear hv7)
      | (go_at_call 68; refine (has_any' base p most v7 L' w7 HS7.out HN'.out HG'.out lo).mono ?_; rintro e w8 ⟨rfl, hB8⟩))
    go_ret
    exact add_post HBA.out HS7.out HK7.out HV7.out hB8 _
end Go.Proofs.Ytndaikeeikimeaa
