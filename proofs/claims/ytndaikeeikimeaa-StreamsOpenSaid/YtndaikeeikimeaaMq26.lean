/-
  streams.Set: onStream.
-/
import Derived.Test.YtndaikeeikimeaaMq25
import Derived.BigQuiet
import Derived.Test.YtndaikeeikimeaaMq23
namespace Go.Proofs.Ytndaikeeikimeaa
section
set_option linter.unusedVariables false
set_option linter.unusedSimpArgs false
open Go.RowKit
section
variable {w0 W W' W1 : World} {s : Nat} {O : Nat → Prop} {Z : ZS}
set_option maxRecDepth 100000 in
set_option maxHeartbeats 16000000 in
theorem ons_any (h : Zt w0 W s O Z) (hok : Z.ok) (m : FN) (d r : Sl) (bs : List Int) (hm : m.wf) (hd : RdP W (fun b => ¬ O b) d.A d.n bs) (hdc : d.n ≤ d.c) (hdn : d.n < 9223372036854775808) (hon : m.k = 8 → m.o.toNat + bs.length < 18446744073709551616) :
    Calls Try.prog 21 #[.pointer (some ⟨s, 0, none⟩), frV m d r] W fun e w' => e = .returned (.int .i64 (onsE Z m bs.length)) ∧ ZQ w0 s O (onsX Z m bs) W w' := by
  obtain ⟨v0, v1, E0, E1, hT, ha, hb, rfl⟩ := h
  obtain ⟨X, a, b⟩ := Z
  dsimp only at hT ha hb
  subst ha hb
  have hms : X.ms ≤ 99999 := hok.ms
  have hmsd : X.msd < 18446744073709551616 := hok.msd
  have htsd : X.tsd < 18446744073709551616 := hok.tsd
  have hlim : X.limit < 18446744073709551616 := hok.lim
  have hown : X.own ≤ 1 := hok.own
  have h0 : E0.length ≤ 100000 := by have : (E0.map En.T).length ≤ 100000 := hok.la; rwa [List.length_map] at this
  have h1 : E1.length ≤ 100000 := by have : (E1.map En.T).length ≤ 100000 := hok.lb; rwa [List.length_map] at this
  obtain ⟨L, W1, hfv, hL, hW1, hB, hlt, hA, d0, d1, d2, d3, d4, d5, d6, d7⟩ := fr_box8 W m d r
  have hT1 := hT.below hB
  have hLl : L.length = 19 := by rw [hL]; rfl
  have HLl := Lib.hid hLl
  have hd1 := hd.kept (Kept.of_below hB (fun _ => False)) fun _ _ h => h
  obtain ⟨id, hid⟩ : ∃ n, m.s.toNat = n := ⟨_, rfl⟩
  have s0 := hm.s0
  have s1 := hm.s1
  have e1 : (m.s : Int) = (id : Int) := by omega
  have hid2 : id < 18446744073709551616 := by omega
  rw [e1] at d1
  have HE : Hid (onsE ⟨X, E0.map En.T, E1.map En.T⟩ m bs.length = match findT (E0.map En.T) (E1.map En.T) id with
    | some T => tlE T X.limit (gotS (rise E0 E1)) m bs.length
    | none => if id / 2 % 2 = 1 ∨ id % 2 = X.own then 5 else if X.ms ≤ id / 4 then 4 else tlE (frS X id) X.limit (gotS (rise E0 E1)) m bs.length) := Lib.hid (by rw [got_T, ← hid]; rfl)
  have HX : Hid (onsX ⟨X, E0.map En.T, E1.map En.T⟩ m bs = match findT (E0.map En.T) (E1.map En.T) id with
    | some T => setT ⟨X, E0.map En.T, E1.map En.T⟩ id (tlX T X.limit (gotS (rise E0 E1)) m bs)
    | none => if id / 2 % 2 = 1 ∨ id % 2 = X.own then ⟨X, E0.map En.T, E1.map En.T⟩ else if X.ms ≤ id / 4 then ⟨X, E0.map En.T, E1.map En.T⟩ else if tlE (frS X id) X.limit (gotS (rise E0 E1)) m bs.length = 0 then addT ⟨X, E0.map En.T, E1.map En.T⟩ id (tlX (frS X id) X.limit (gotS (rise E0 E1)) m bs) else ⟨X, E0.map En.T, E1.map En.T⟩) := Lib.hid (by rw [got_T, ← hid]; rfl)
  have HF := find_any hT1 id hid2 (by omega) (by omega)
  have HTL := Lib.hid (fun (w1 : World) (x : Nat) (Ox : Nat → Prop) (T : TS) (k : Below W1.heap.size W1 w1) (hx : Str w0 w1 x Ox T) (hT : T.ok) (hda : ∀ b, b < W1.heap.size → ¬ SO s v0 v1 E0 E1 b → ¬ Ox b) => tell_ok (hT1.below k) h0 h1 hx hT m d r bs hm ((hd1.mono hda).kept (Kept.of_below k (fun _ => False)) fun _ _ h => h) hdc hdn hlim hon)
  have HSAME : Hid (∀ w', Below W1.heap.size W1 w' → ZQ w0 s (SO s v0 v1 E0 E1) ⟨X, E0.map En.T, E1.map En.T⟩ W w') := Lib.hid (fun w' k => ZQ.below hB (Zt.same ⟨v0, v1, E0, E1, hT1, rfl, rfl, rfl⟩ k))
  obtain ⟨g, hg⟩ : ∃ g, W.heap.size = g := ⟨_, rfl⟩
  have hA2 : At W1 g 34 L := by rw [← hg]; exact hA
  rw [hg] at d0 d1 d2 d3 d4 d5 d6 d7
  rw [find_T] at HE HX
  rw [hfv] at HTL ⊢
  have bb1 := and_one id hid2
  have bb2 := and_two id hid2
  rcases hfe : findE E0 E1 id with _ | e
  · rw [hfe] at HF HE HX
    have HF2 : Hid (Calls Try.prog 28 #[.pointer (some ⟨s, 0, none⟩), .int .u64 (id : Int)] W1 fun e' w' => e' = .returned (.tuple #[.pointer none, .bool false]) ∧ w' = W1) := Lib.hid HF
    have HAT : Hid (∀ w', Below W1.heap.size W1 w' → w'.cell? ⟨g, 1, none⟩ = some (.int .u64 (id : Int)) ∧ At w' g 34 L ∧ Tt w0 w' s v0 v1 E0 E1 X) := Lib.hid (fun w' k => ⟨(k.cell (p := ⟨g, 1, none⟩) hA2.lt).trans d1, hA2.kept (Kept.of_below k fun _ => False) (fun h => h), hT1.below k⟩)
    have hc0 := hT1.c0
    clear HF hA hL hLl hfv d0 d2 d3 d4 d5 d6 d7 hd1 hd
    by_cases hr : id / 2 % 2 = 1
    · have HE2 : Hid (onsE ⟨X, E0.map En.T, E1.map En.T⟩ m bs.length = 5) := Lib.hid (by rw [HE.out]; exact if_pos (.inl hr))
      have HX2 : Hid (onsX ⟨X, E0.map En.T, E1.map En.T⟩ m bs = ⟨X, E0.map En.T, E1.map En.T⟩) := Lib.hid (by rw [HX.out]; exact if_pos (.inl hr))
      rw [hr] at bb2
      clear HE HX HTL HAT hT hT1 hok hA2 hon hfe hr
      go_enter Try.func21, Try.ntmps21
      go_wp2_with (first | (go_at_call 28; (with_reducible refine HF2.out.mono ?_); rintro e' w2 ⟨rfl, hw⟩; have hw2 := hw.symm; clear hw; subst hw2) | fail)
      go_quiet (fail)
      generalize hY : World.drewN _ nq = Y
      have hBY : Below W1.heap.size W1 Y := by rw [← hY]; exact belowN (Below.refl _ _) nq
      clear hY
      go_wp2_with fail
      go_ret
      exact ⟨by rw [HE2.out]; rfl, by rw [HX2.out]; exact HSAME.out _ hBY⟩
    · have hr0 : id / 2 % 2 = 0 := by omega
      rw [hr0] at bb2
      obtain ⟨pp, hpp⟩ : ∃ p, id % 2 = p := ⟨_, rfl⟩
      obtain ⟨ow, how⟩ : ∃ p, X.own = p := ⟨_, rfl⟩
      rw [hpp] at bb1
      rw [how] at hc0
      by_cases hpo : pp = ow
      · have HE2 : Hid (onsE ⟨X, E0.map En.T, E1.map En.T⟩ m bs.length = 5) := Lib.hid (by rw [HE.out]; exact if_pos (.inr (by omega)))
        have HX2 : Hid (onsX ⟨X, E0.map En.T, E1.map En.T⟩ m bs = ⟨X, E0.map En.T, E1.map En.T⟩) := Lib.hid (by rw [HX.out]; exact if_pos (.inr (by omega)))
        rw [hpo] at bb1
        clear HE HX HTL hT hT1 hok hA2 hon hfe HAT
        go_enter Try.func21, Try.ntmps21
        go_wp2_with (first | (go_at_call 28; (with_reducible refine HF2.out.mono ?_); rintro e' w2 ⟨rfl, hw⟩; have hw2 := hw.symm; clear hw; subst hw2) | fail)
        go_quiet (fail)
        generalize hY : World.drewN _ nq = Y
        have hBY : Below W1.heap.size W1 Y := by rw [← hY]; exact belowN (Below.refl _ _) nq
        clear hY
        go_wp2_with fail
        go_ret
        exact ⟨by rw [HE2.out]; rfl, by rw [HX2.out]; exact HSAME.out _ hBY⟩
      · have hpoi : ¬ (pp : Int) = (ow : Int) := by omega
        have hpob : ((pp : Int) == (ow : Int)) = false := by simp [hpoi]
        obtain ⟨q, hq⟩ : ∃ q, id / 4 = q := ⟨_, rfl⟩
        have hq4 : (id : Int) / 4 = (q : Int) := by omega
        rw [hq] at HE HX
        obtain ⟨ms, hmse⟩ : ∃ q, X.ms = q := ⟨_, rfl⟩
        have hc4 := hT1.c4
        rw [hmse] at HE HX hc4
        by_cases hlim2 : ms ≤ q
        · have HE2 : Hid (onsE ⟨X, E0.map En.T, E1.map En.T⟩ m bs.length = 4) := Lib.hid (by rw [HE.out]; exact (if_neg (by omega)).trans (if_pos hlim2))
          have HX2 : Hid (onsX ⟨X, E0.map En.T, E1.map En.T⟩ m bs = ⟨X, E0.map En.T, E1.map En.T⟩) := Lib.hid (by rw [HX.out]; exact (if_neg (by omega)).trans (if_pos hlim2))
          have hz : (ms : Int) ≤ (q : Int) := by omega
          clear HE HX HTL hT hT1 hok hA2 hon hfe
          go_enter Try.func21, Try.ntmps21
          go_wp2_with (first | (go_at_call 28; (with_reducible refine HF2.out.mono ?_); rintro e' w2 ⟨rfl, hw⟩; have hw2 := hw.symm; clear hw; subst hw2) | fail)
          go_quiet (fail)
          generalize hY : World.drewN _ nq = Y
          have hBY : Below W1.heap.size W1 Y := by rw [← hY]; exact belowN (Below.refl _ _) nq
          obtain ⟨y1, y2, y3⟩ := HAT.out Y hBY
          have y4 := y3.c4
          rw [hmse] at y4
          clear hY y3
          go_wp2_with fail
          go_quiet (fail)
          generalize hY2 : World.drewN _ nq = Y2
          have hBY2 : Below W1.heap.size W1 Y2 := by rw [← hY2]; exact belowN hBY nq
          clear hY2
          go_wp2_with fail
          go_ret
          exact ⟨by rw [HE2.out]; rfl, by rw [HX2.out]; exact HSAME.out _ hBY2⟩
        · have hz : ¬ (ms : Int) ≤ (q : Int) := by omega
          have hfrT : findT (E0.map En.T) (E1.map En.T) id = none := by rw [find_T, hfe]; rfl
          obtain ⟨n0, n1⟩ := findT_none hfrT (by omega)
          rw [List.length_map] at n0 n1
          have hidT : (tlX (frS X id) X.limit (gotS (rise E0 E1)) m bs).id = id := by rw [tlX_id]; rfl
          have HFR : Hid (∀ Y, Below W1.heap.size W1 Y → Calls Try.prog 26 #[.pointer (some ⟨s, 0, none⟩), .int .u64 (id : Int)] Y (FrPo w0 Y X id)) := Lib.hid (fun Y k => fresh_any (hT1.below k) id hid2 hmsd htsd)
          have HTL2 := Lib.hid (fun (w1 : World) (x : Nat) (Ox : Nat → Prop) (k : Below W1.heap.size W1 w1) (hx : Str w0 w1 x Ox (frS X id)) (hn : ∀ j, Ox j → W1.heap.size ≤ j) => HTL.out w1 x Ox (frS X id) k hx (frS_ok X id hid2) (fun b hb _ hx => by have := hn b hx; omega))
          have HBES : Hid (∀ (w1 w2 : World) (Oy Oy' : Nat → Prop), Below W1.heap.size W1 w1 → (∀ j, Oy j → W1.heap.size ≤ j) → Kept Oy w1 w2 → (∀ j, Oy' j → Oy j ∨ w1.heap.size ≤ j) → Below W1.heap.size W1 w2 ∧ (∀ Q ∈ TtO s v0 v1 E0 E1, ∀ b, Oy' b → ¬ Q b) ∧ ∀ j, Oy' j → W1.heap.size ≤ j) := Lib.hid (fun w1 w2 Oy Oy' a b c d => (hT1.besides (T' := frS X id) (y := 0) a b c d).2)
          have HRE : Hid (∀ (w2 : World) (y : Nat) (Oy : Nat → Prop), Below W1.heap.size W1 w2 → Str w0 w2 y Oy (tlX (frS X id) X.limit (gotS (rise E0 E1)) m bs) → (∀ Q ∈ TtO s v0 v1 E0 E1, ∀ b, Oy b → ¬ Q b) → (∀ j, Oy j → W1.heap.size ≤ j) → Calls Try.prog 25 #[.pointer (some ⟨s, 0, none⟩), .pointer (some ⟨y, 0, none⟩)] w2 fun e w' => e = .returned (.tuple #[]) ∧ ZQ w0 s (SO s v0 v1 E0 E1) (addT ⟨X, E0.map En.T, E1.map En.T⟩ id (tlX (frS X id) X.limit (gotS (rise E0 E1)) m bs)) W w') := Lib.hid (fun w2 y Oy k hy hap hn => by
            rcases (show pp = 0 ∨ pp = 1 by omega) with hp | hp
            · exact (reach_0 (hT1.below k) hy hap q (by rw [hidT]; omega) (by omega) (by have := n0 (by omega); omega) hmsd htsd).mono fun e w' hP => ⟨hP.1, ZQ.below hB (hT1.zadd0 k hn (by omega) hq hP)⟩
            · exact (reach_1 (hT1.below k) hy hap q (by rw [hidT]; omega) (by omega) (by have := n1 (by omega); omega) hmsd htsd).mono fun e w' hP => ⟨hP.1, ZQ.below hB (hT1.zadd1 k hn (by omega) hq hP)⟩)
          have HE1 : Hid (onsE ⟨X, E0.map En.T, E1.map En.T⟩ m bs.length = tlE (frS X id) X.limit (gotS (rise E0 E1)) m bs.length) := Lib.hid (by rw [HE.out]; exact (if_neg (by omega)).trans (if_neg hlim2))
          have HX1 : Hid (onsX ⟨X, E0.map En.T, E1.map En.T⟩ m bs = if tlE (frS X id) X.limit (gotS (rise E0 E1)) m bs.length = 0 then addT ⟨X, E0.map En.T, E1.map En.T⟩ id (tlX (frS X id) X.limit (gotS (rise E0 E1)) m bs) else ⟨X, E0.map En.T, E1.map En.T⟩) := Lib.hid (by rw [HX.out]; exact (if_neg (by omega)).trans (if_neg hlim2))
          obtain ⟨c, hc⟩ : ∃ c, tlE (frS X id) X.limit (gotS (rise E0 E1)) m bs.length = c := ⟨_, rfl⟩
          rw [hc] at HE1 HX1 HTL2
          clear HE HX HTL hT hT1 hok hA2 hon hfe hfrT n0 n1 hidT hc
          by_cases hz0 : c = 0
          · subst hz0
            go_enter Try.func21, Try.ntmps21
            go_wp2_with (first | (go_at_call 28; (with_reducible refine HF2.out.mono ?_); rintro e' w2 ⟨rfl, hw⟩; have hw2 := hw.symm; clear hw; subst hw2) | fail)
            go_quiet (fail)
            generalize hY : World.drewN _ nq = Y
            have hBY : Below W1.heap.size W1 Y := by rw [← hY]; exact belowN (Below.refl _ _) nq
            obtain ⟨y1, y2, y3⟩ := HAT.out Y hBY
            have y4 := y3.c4
            rw [hmse] at y4
            clear hY y3
            go_wp2_with fail
            go_quiet (fail)
            generalize hY2 : World.drewN _ nq = Y2
            have hBY2 : Below W1.heap.size W1 Y2 := by rw [← hY2]; exact belowN hBY nq
            have x1 := (HAT.out Y2 hBY2).1
            clear hY2 y1 y2 y4
            go_wp2_with (first | ((with_reducible refine at_ld ?_); refine ld_fr g L (by rfl) hA9 HLl.out ?_) | (go_at_call 26; (with_reducible refine (HFR.out Y2 hBY2).mono ?_); rintro e' w3 ⟨y, Oy, rfl, hy, hyn, hb3⟩; have hB3 := Lib.hid (hBY2.trans (hb3.mono hBY2.size)); have hA9 := (HAT.out w3 hB3.out).2.1; have hTT := Lib.hid (HTL2.out w3 y Oy hB3.out hy fun j hj => Nat.le_trans hBY2.size (hyn j hj)); have hyn := Lib.hid (fun j hj => Nat.le_trans hBY2.size (hyn j hj)); clear hy hb3) | (go_at_call 29; (with_reducible refine hTT.out.mono ?_); rintro e' w4 ⟨rfl, hP⟩; obtain ⟨Oz, hz1, hz2, hz3⟩ := hP; have hBS := Lib.hid (HBES.out w3 w4 Oy Oz hB3.out hyn.out hz2 hz3); have hz1 := Lib.hid hz1; clear hz2 hz3) | (go_at_call 25; (with_reducible refine (HRE.out w4 y Oz hBS.out.1 hz1.out hBS.out.2.1 hBS.out.2.2).mono ?_); rintro e' w5 ⟨rfl, hQ⟩; have hQ := Lib.hid hQ) | fail)
            go_ret
            exact ⟨by rw [HE1.out]; rfl, by rw [HX1.out, if_pos trivial]; exact hQ.out⟩
          · have hz2 : (c == 0) = false := by simp [hz0]
            go_enter Try.func21, Try.ntmps21
            go_wp2_with (first | (go_at_call 28; (with_reducible refine HF2.out.mono ?_); rintro e' w2 ⟨rfl, hw⟩; have hw2 := hw.symm; clear hw; subst hw2) | fail)
            go_quiet (fail)
            generalize hY : World.drewN _ nq = Y
            have hBY : Below W1.heap.size W1 Y := by rw [← hY]; exact belowN (Below.refl _ _) nq
            obtain ⟨y1, y2, y3⟩ := HAT.out Y hBY
            have y4 := y3.c4
            rw [hmse] at y4
            clear hY y3
            go_wp2_with fail
            go_quiet (fail)
            generalize hY2 : World.drewN _ nq = Y2
            have hBY2 : Below W1.heap.size W1 Y2 := by rw [← hY2]; exact belowN hBY nq
            have x1 := (HAT.out Y2 hBY2).1
            clear hY2 y1 y2 y4
            go_wp2_with (first | ((with_reducible refine at_ld ?_); refine ld_fr g L (by rfl) hA9 HLl.out ?_) | (go_at_call 26; (with_reducible refine (HFR.out Y2 hBY2).mono ?_); rintro e' w3 ⟨y, Oy, rfl, hy, hyn, hb3⟩; have hB3 := Lib.hid (hBY2.trans (hb3.mono hBY2.size)); have hA9 := (HAT.out w3 hB3.out).2.1; have hTT := Lib.hid (HTL2.out w3 y Oy hB3.out hy fun j hj => Nat.le_trans hBY2.size (hyn j hj)); have hyn := Lib.hid (fun j hj => Nat.le_trans hBY2.size (hyn j hj)); clear hy hb3) | (go_at_call 29; (with_reducible refine hTT.out.mono ?_); rintro e' w4 ⟨rfl, hP⟩; obtain ⟨Oz, hz1, hz2, hz3⟩ := hP; have hBS := Lib.hid (HBES.out w3 w4 Oy Oz hB3.out hyn.out hz2 hz3); have hz1 := Lib.hid hz1; clear hz2 hz3) | fail)
            go_ret
            exact ⟨by rw [HE1.out]; rfl, by rw [HX1.out, if_neg hz0]; exact HSAME.out _ hBS.out.1⟩
  · rw [hfe] at HF HE HX
    have he : e ∈ E0 ++ E1 := by
      obtain ⟨i, hi⟩ := findE_mem hfe
      exact List.mem_of_getElem? hi
    have hTk : e.T.ok ∧ e.T.id = id := hok.found (T := e.T) (id := id) (by show findT (E0.map En.T) (E1.map En.T) id = _; rw [find_T, hfe]; rfl)
    have HT2 := Lib.hid (HTL.out W1 e.x e.O e.T (Below.refl _ _) (hT1.ea e he) hTk.1 fun b _ hb hx => hb (so_e he hx))
    have HZ := Lib.hid (fun w' (hP : StPost w0 e.x e.O (tlX e.T X.limit (gotS (rise E0 E1)) m bs) W1 w') => ZQ.below hB (hT1.zturn hfe hP (tlX_id _ _ _ _ _)))
    have HF2 : Hid (Calls Try.prog 28 #[.pointer (some ⟨s, 0, none⟩), .int .u64 (id : Int)] W1 fun e' w' => e' = .returned (.tuple #[.pointer (some ⟨e.x, 0, none⟩), .bool true]) ∧ w' = W1) := Lib.hid HF
    obtain ⟨c, hc⟩ : ∃ c, tlE e.T X.limit (gotS (rise E0 E1)) m bs.length = c := ⟨_, rfl⟩
    have HE2 : Hid (onsE ⟨X, E0.map En.T, E1.map En.T⟩ m bs.length = c) := Lib.hid (HE.out.trans hc)
    rw [hc] at HT2
    clear HTL HSAME HF hT hT1 hok hd hd1 hA hL hLl hfv bb1 bb2 HE hc hTk he hfe hm hon d0 d2 d3 d4 d5 d6 d7
    by_cases hz : c = 0
    · subst hz
      go_enter Try.func21, Try.ntmps21
      go_wp2_with (first | ((with_reducible refine at_ld ?_); refine ld_fr g L (by rfl) hA2 HLl.out ?_) | (go_at_call 28; (with_reducible refine HF2.out.mono ?_); rintro e' w2 ⟨rfl, hw⟩; have hw2 := hw.symm; clear hw; subst hw2) | (go_at_call 29; (with_reducible refine HT2.out.mono ?_); rintro e' w2 ⟨rfl, h2⟩; have H2 := Lib.hid (HZ.out _ h2); clear h2) | fail)
      go_ret
      exact ⟨(by rw [HE2.out]; rfl), by rw [HX.out]; exact H2.out⟩
    · have hz2 : (c == 0) = false := by simp [hz]
      go_enter Try.func21, Try.ntmps21
      go_wp2_with (first | ((with_reducible refine at_ld ?_); refine ld_fr g L (by rfl) hA2 HLl.out ?_) | (go_at_call 28; (with_reducible refine HF2.out.mono ?_); rintro e' w2 ⟨rfl, hw⟩; have hw2 := hw.symm; clear hw; subst hw2) | (go_at_call 29; (with_reducible refine HT2.out.mono ?_); rintro e' w2 ⟨rfl, h2⟩; have H2 := Lib.hid (HZ.out _ h2); clear h2) | fail)
      go_ret
      exact ⟨(by rw [HE2.out]; rfl), by rw [HX.out]; exact H2.out⟩
end
end
section
set_option linter.unusedVariables false
set_option linter.unusedSimpArgs false
open Go.RowKit
def ofS (k : Int) : Prop := k = 8 ∨ k = 4 ∨ k = 5 ∨ k = 17
instance (k : Int) : Decidable (ofS k) := by unfold ofS; infer_instance
def zonE (Z : ZS) (m : FN) (n : Nat) : Int := if ofS m.k then onsE Z m n else if m.k = 16 ∨ m.k = 18 ∨ m.k = 20 then 0 else 10
def zonX (Z : ZS) (m : FN) (bs : List Int) : ZS := if ofS m.k then onsX Z m bs else if m.k = 16 then { Z with X := { Z.X with allowed := max Z.X.allowed m.l.toNat } } else Z
theorem ZS.ok.zon {Z : ZS} (h : Z.ok) {m : FN} {bs : List Int} (hm : m.wf) (hb : Byt bs) : (zonX Z m bs).ok := by
  unfold zonX
  split
  · exact h.ons hm hb
  · split
    · exact ⟨h.ms, h.msd, h.tsd, h.lim, h.own, h.la, h.lb, h.ea, h.eb, h.ia, h.ib⟩
    · exact h
section
variable {w0 W W' W1 : World} {s : Nat} {O : Nat → Prop} {Z : ZS}
set_option maxRecDepth 100000 in
set_option maxHeartbeats 16000000 in
theorem zon_any (h : Zt w0 W s O Z) (hok : Z.ok) (hal : Z.X.allowed < 18446744073709551616) (m : FN) (d r : Sl) (bs : List Int) (hm : m.wf) (hd : RdP W (fun b => ¬ O b) d.A d.n bs) (hdc : d.n ≤ d.c) (hdn : d.n < 9223372036854775808) (hon : m.k = 8 → m.o.toNat + bs.length < 18446744073709551616) :
    Calls Try.prog 9 #[.pointer (some ⟨s, 0, none⟩), frV m d r] W fun e w' => e = .returned (.int .i64 (zonE Z m bs.length)) ∧ ZQ w0 s O (zonX Z m bs) W w' := by
  obtain ⟨L, W1, hfv, hL, hW1, hB, hlt, hA, d0, d1, d2, d3, d4, d5, d6, d7⟩ := fr_box8 W m d r
  have h1 := h.below hB
  have hLl : L.length = 19 := by rw [hL]; rfl
  have HLl := Lib.hid hLl
  have HON := Lib.hid (ons_any h1 hok m d r bs hm (hd.kept (Kept.of_below hB (fun _ => False)) fun _ _ h => h) hdc hdn hon)
  have HSAME : Hid (ZQ w0 s O Z W W1) := Lib.hid (h.same hB)
  have HBL : Hid (∀ Z' w', ZQ w0 s O Z' W1 w' → ZQ w0 s O Z' W w') := Lib.hid (fun Z' w' hq => ZQ.below hB hq)
  obtain ⟨g, hg⟩ : ∃ g, W.heap.size = g := ⟨_, rfl⟩
  have hA2 : At W1 g 34 L := by rw [← hg]; exact hA
  rw [hg] at d0 d1 d2 d3 d4 d5 d6 d7
  rw [hfv] at HON ⊢
  have HE : Hid (zonE Z m bs.length = if ofS m.k then onsE Z m bs.length else if m.k = 16 ∨ m.k = 18 ∨ m.k = 20 then 0 else 10) := Lib.hid rfl
  have HX : Hid (zonX Z m bs = if ofS m.k then onsX Z m bs else if m.k = 16 then { Z with X := { Z.X with allowed := max Z.X.allowed m.l.toNat } } else Z) := Lib.hid rfl
  obtain ⟨kk, hkk⟩ : ∃ k, m.k = k := ⟨_, rfl⟩
  rw [hkk] at d0 HE HX
  have l0 := hm.l0
  have l1 := hm.l1
  clear hL hLl hfv hA hd hon hm
  by_cases hof : ofS kk
  · rw [if_pos hof] at HE HX
    clear hkk
    have key : kk = 8 ∨ kk = 4 ∨ kk = 5 ∨ kk = 17 := hof
    rcases key with hk | hk | hk | hk
    all_goals
      rw [hk] at d0
      clear hof hk
      go_enter Try.func9, Try.ntmps9
      go_wp2_with (first | ((with_reducible refine at_ld ?_); refine ld_fr g L (by rfl) hA2 HLl.out ?_) | (go_at_call 21; (with_reducible refine HON.out.mono ?_); rintro e w2 ⟨rfl, h2⟩; have H2 := Lib.hid h2; clear h2) | fail)
      go_ret
      exact ⟨(by rw [HE.out]; rfl), by rw [HX.out]; exact HBL.out _ _ H2.out⟩
  · rw [if_neg hof] at HE HX
    have n8 : (kk == 8) = false := by simp; exact fun e => hof (.inl e)
    have n4 : (kk == 4) = false := by simp; exact fun e => hof (.inr (.inl e))
    have n5 : (kk == 5) = false := by simp; exact fun e => hof (.inr (.inr (.inl e)))
    have n17 : (kk == 17) = false := by simp; exact fun e => hof (.inr (.inr (.inr e)))
    by_cases h16 : kk = 16
    · rw [if_pos (.inl h16)] at HE
      rw [if_pos h16] at HX
      rw [h16] at d0
      clear hkk HON n8 n4 n5 n17 hof
      obtain ⟨ml, hml⟩ : ∃ n, m.l.toNat = n := ⟨_, rfl⟩
      have el : (m.l : Int) = (ml : Int) := by omega
      rw [el] at d5
      rw [hml] at HX
      obtain ⟨v0, v1, E0, E1, hT1, ha, hb, hO⟩ := h1
      obtain ⟨al, hale⟩ : ∃ a, Z.X.allowed = a := ⟨_, rfl⟩
      obtain ⟨A, hA0⟩ : ∃ a, max al ml = a := ⟨_, rfl⟩
      rw [hale] at HX hal
      rw [hA0] at HX
      have HOO := Lib.hid (And.intro ha (And.intro hb hO))
      have hne : s ≠ g := by have := (h.lt s h.own).2; omega
      clear ha hb hO h
      go_enter Try.func9, Try.ntmps9
      go_upto_region 9 with fail
      obtain ⟨Y, hY⟩ : ∃ z, W1.drew = z := ⟨_, rfl⟩
      have kY : Below W1.heap.size W1 Y := by rw [← hY]; exact belowN (Below.refl _ _) 1
      have hTY := hT1.below kY
      have hHeld : Y.cell? ⟨s, 29, none⟩ = some (.int .u64 al) ∧ Y.cell? ⟨g, 5, none⟩ = some (.int .u64 ml) := ⟨(by rw [← hale]; exact hTY.c29), (kY.cell (p := ⟨g, 5, none⟩) hA2.lt).trans d5⟩
      have f29 := hTY.at_.frozen 29
      refine wp_region_tail (S := (fun W => W.cell? ⟨s, 29, none⟩ = some (.int .u64 al) ∧ W.cell? ⟨g, 5, none⟩ = some (.int .u64 ml))) (D := 10) (by kernel_rfl) ?_
      rw [hY]
      clear hY
      refine tail_pure 0 (some 17) (v := ?_) rfl (Or.inl ⟨by rfl, ?_⟩) (fun _ => hHeld) ?_
      rotate_left
      · intro w hSw; (try dsimp only at hSw); go_simp; first | done | (with_reducible rfl)
      simp only [Act.put, List.setIfInBounds_toArray, List.set_cons_zero, List.set_cons_succ]
      refine tail_pure 1 (some 18) (v := ?_) rfl (Or.inl ⟨by rfl, ?_⟩) (fun _ => hHeld) ?_
      rotate_left
      · intro w hSw; (try dsimp only at hSw); go_simp; first | done | (with_reducible rfl)
      simp only [Act.put, List.setIfInBounds_toArray, List.set_cons_zero, List.set_cons_succ]
      refine tail_pure 2 (some 19) (v := ?_) rfl (Or.inl ⟨by rfl, ?_⟩) (fun _ => hHeld) ?_
      rotate_left
      · intro w hSw; (try dsimp only at hSw); go_simp; first | done | (with_reducible rfl)
      simp only [Act.put, List.setIfInBounds_toArray, List.set_cons_zero, List.set_cons_succ]
      refine tail_pure 3 (some 20) (v := ?_) rfl (Or.inl ⟨by rfl, ?_⟩) (fun _ => hHeld) ?_
      rotate_left
      · intro w hSw; (try dsimp only at hSw); go_simp; first | done | (with_reducible rfl)
      simp only [Act.put, List.setIfInBounds_toArray, List.set_cons_zero, List.set_cons_succ]
      refine tail_load 4 (some 21) [7, 10] (v := ?_) rfl (Or.inl ⟨by rfl, ?_⟩) hHeld ?_
      rotate_left
      · intro w hSw; (try dsimp only at hSw); go_simp; first | done | (with_reducible rfl)
      simp only [Act.put, List.setIfInBounds_toArray, List.set_cons_zero, List.set_cons_succ]
      refine tail_pure 5 (some 22) (v := ?_) rfl (Or.inl ⟨by rfl, ?_⟩) (fun _ => hHeld) ?_
      rotate_left
      · intro w hSw; (try dsimp only at hSw); go_simp; first | done | (with_reducible rfl)
      simp only [Act.put, List.setIfInBounds_toArray, List.set_cons_zero, List.set_cons_succ]
      refine tail_load 6 (some 23) [7, 10] (v := ?_) rfl (Or.inl ⟨by rfl, ?_⟩) hHeld ?_
      rotate_left
      · intro w hSw; (try dsimp only at hSw); go_simp; first | done | (with_reducible rfl)
      simp only [Act.put, List.setIfInBounds_toArray, List.set_cons_zero, List.set_cons_succ]
      refine tail_pure 7 (some 24) (v := .int .u64 (A : Int)) rfl (Or.inl ⟨by rfl, ?_⟩) (fun _ => hHeld) ?_
      · intro w hSw; go_simp; (first | done | (split <;> omega))
      simp only [Act.put, List.setIfInBounds_toArray, List.set_cons_zero, List.set_cons_succ]
      refine tail_pure 8 (some 25) (v := ?_) rfl (Or.inl ⟨by rfl, ?_⟩) (fun _ => hHeld) ?_
      rotate_left
      · intro w hSw; (try dsimp only at hSw); go_simp; first | done | (with_reducible rfl)
      simp only [Act.put, List.setIfInBounds_toArray, List.set_cons_zero, List.set_cons_succ]
      refine tail_pure 9 (some 26) (v := ?_) rfl (Or.inl ⟨by rfl, ?_⟩) (fun _ => hHeld) ?_
      rotate_left
      · intro w hSw; (try dsimp only at hSw); go_simp; first | done | (with_reducible rfl)
      simp only [Act.put, List.setIfInBounds_toArray, List.set_cons_zero, List.set_cons_succ]
      refine wpTail.ready (rs := [10]) (by kernel_rfl) (by simp) ?_
      refine AllTail.late rfl (by kernel_rfl) (fun K hK => ?_) AllTail.nil
      have q1 := hHeld.1
      have q2 := hHeld.2
      go_simp
      go_wp2_with (fail)
      refine hK.out _ _ ?_
      clear hK K
      refine wpTail.done (by kernel_rfl) ?_ _
      go_wp2_with fail
      go_ret
      refine ⟨by rw [HE.out]; rfl, ?_⟩
      rw [HX.out]
      have hT2 := hTY.put (setL_al _ v0 v1 A)
      obtain ⟨oa, ob, oc⟩ := HOO.out
      refine HBL.out _ _ ⟨O, ⟨v0, v1, E0, E1, hT2, oa, ob, oc⟩, ((Kept.of_below kY O).setCell (p := ⟨s, 29, none⟩) ?_ (.int .u64 A)), fun j hj => .inl hj⟩
      rw [oc]; exact .inl ⟨(· = s), by unfold TtO; simp, rfl⟩
    · have n16 : (kk == 16) = false := by simp [h16]
      rw [if_neg h16] at HX
      by_cases h18 : kk = 18 ∨ kk = 20
      · rw [if_pos (.inr h18)] at HE
        rcases h18 with hk | hk
        all_goals
          rw [hk] at d0
          clear hof hk hkk HON n8 n4 n5 n17 n16
          go_enter Try.func9, Try.ntmps9
          go_wp2_with fail
          go_ret
          exact ⟨(by rw [HE.out]; rfl), by rw [HX.out]; exact HSAME.out⟩
      · rw [if_neg (by rintro (e | e); exact h16 e; exact h18 e)] at HE
        have n18 : (kk == 18) = false := by simp; exact fun e => h18 (.inl e)
        have n20 : (kk == 20) = false := by simp; exact fun e => h18 (.inr e)
        clear HON hkk
        go_enter Try.func9, Try.ntmps9
        go_wp2_with fail
        go_ret
        exact ⟨(by rw [HE.out]; rfl), by rw [HX.out]; exact HSAME.out⟩
end
end
section
set_option linter.unusedVariables false
set_option linter.unusedSimpArgs false
open Go.RowKit
def lenO (Z : ZS) : Nat := if Z.X.own = 0 then Z.a.length else Z.b.length
def opE (Z : ZS) : Int := if Z.X.tms ≤ lenO Z then 31 else 0
def opI (Z : ZS) : Nat := if Z.X.tms ≤ lenO Z then 0 else 4 * lenO Z + Z.X.own
def opX (Z : ZS) : ZS := if Z.X.tms ≤ lenO Z then Z else if Z.X.own = 0 then { Z with a := Z.a ++ [frS Z.X (4 * Z.a.length)] } else { Z with b := Z.b ++ [frS Z.X (4 * Z.b.length + 1)] }
theorem ZS.ok.op {Z : ZS} (h : Z.ok) (ht : Z.X.tms ≤ 99999) : (opX Z).ok := by
  have ga : ∀ (l : List TS) (n : Nat) (hn : ∀ (i : Nat) (T : TS), l[i]? = some T → T.id = 4 * i + n) (i : Nat) (T : TS), (l ++ [frS Z.X (4 * l.length + n)])[i]? = some T → T.id = 4 * i + n := fun l n hn i T hi => by
    rcases Nat.lt_or_ge i l.length with e | e
    · rw [List.getElem?_append_left e] at hi
      exact hn i T hi
    · rw [List.getElem?_append_right e] at hi
      rcases Nat.eq_or_lt_of_le e with e | e
      · rw [← e, Nat.sub_self] at hi
        injection hi with hi
        rw [← hi, ← e]
        rfl
      · rw [List.getElem?_eq_none (by simp; omega)] at hi
        cases hi
  unfold opX
  split
  · exact h
  · rename_i hlt
    unfold lenO at hlt
    split
    · rename_i h0
      rw [if_pos h0] at hlt
      refine { h with la := ?_, ea := fun T hT => ?_, ia := fun i T hi => ga Z.a 0 h.ia i T hi }
      · show (Z.a ++ [_]).length ≤ 100000
        rw [List.length_append]
        show Z.a.length + 1 ≤ 100000
        omega
      · rcases List.mem_append.1 (show T ∈ Z.a ++ [_] from hT) with e | e
        · exact h.ea T e
        · rw [List.mem_singleton.1 e]
          exact frS_ok Z.X _ (by have := h.la; omega)
    · rename_i h0
      rw [if_neg h0] at hlt
      refine { h with lb := ?_, eb := fun T hT => ?_, ib := fun i T hi => ga Z.b 1 h.ib i T hi }
      · show (Z.b ++ [_]).length ≤ 100000
        rw [List.length_append]
        show Z.b.length + 1 ≤ 100000
        omega
      · rcases List.mem_append.1 (show T ∈ Z.b ++ [_] from hT) with e | e
        · exact h.eb T e
        · rw [List.mem_singleton.1 e]
          exact frS_ok Z.X _ (by have := h.lb; omega)
section
variable {w0 W W' W1 : World} {s : Nat} {O : Nat → Prop} {Z : ZS}
theorem z_new (hb : Below w0.heap.size w0 W) (sv : Bool) (md msd ms : Nat) (hmd : md < 18446744073709551616) (hmsd : msd < 18446744073709551616) (hms : ms < 18446744073709551616) :
    Calls Try.prog 5 #[.bool sv, .agg (prL md msd ms).toArray] W fun e w' => ∃ s O, e = .returned (.pointer (some ⟨s, 0, none⟩)) ∧ Zt w0 w' s O ⟨xs0 sv md msd ms, [], []⟩ ∧ Below W.heap.size W w' ∧ ∀ j, O j → W.heap.size ≤ j :=
  (newS_any sv md msd ms hmd hmsd hms W).mono fun e w' ⟨s, he, hT⟩ =>
    ⟨s, _, he, ⟨nilV, nilV, [], [], tt_new (Nat.le_trans hb.size hT.bs) (hb.trans (hT.bl.mono hb.size)) hT.at_, rfl, rfl, rfl⟩, hT.bl, fun j ⟨Q, hQ, hj⟩ => (hT.lts Q hQ j hj).1⟩
theorem z_allow (h : Zt w0 W s O Z) (ha : Z.a = []) (hb : Z.b = []) (md msd ms : Nat) (hmd : md < 18446744073709551616) (hmsd : msd < 18446744073709551616) (hms : ms < 18446744073709551616)
    (hal : Z.X.allowed < 18446744073709551616) (ht : Z.X.tsd < 18446744073709551616) (hm : Z.X.tms < 18446744073709551616) :
    Calls Try.prog 6 #[.pointer (some ⟨s, 0, none⟩), .agg (prL md msd ms).toArray] W fun e w' => e = .returned (.tuple #[]) ∧ ZQ w0 s O ⟨alwX Z.X md msd ms, [], []⟩ W w' := by
  obtain ⟨v0, v1, E0, E1, hT, h0, h1, rfl⟩ := h
  have e0 : E0 = [] := List.map_eq_nil_iff.1 (h0.trans ha)
  have e1 : E1 = [] := List.map_eq_nil_iff.1 (h1.trans hb)
  subst e0 e1
  refine (allow_any hT (Nat.zero_le _) (Nat.zero_le _) md msd ms hmd hmsd hms hal ht hm).mono fun e w' ⟨he, F0, F1, hF, l0, l1, hk, ho⟩ => ?_
  have f0 : F0 = [] := List.length_eq_zero_iff.1 l0
  have f1 : F1 = [] := List.length_eq_zero_iff.1 l1
  subst f0 f1
  exact ⟨he, _, ⟨v0, v1, [], [], hF, rfl, rfl, rfl⟩, hk, ho⟩
theorem z_open (h : Zt w0 W s O Z) (hok : Z.ok) :
    Calls Try.prog 17 #[.pointer (some ⟨s, 0, none⟩)] W fun e w' => e = .returned (.tuple #[.int .u64 (opI Z), .int .i64 (opE Z)]) ∧ ZQ w0 s O (opX Z) W w' := by
  obtain ⟨v0, v1, E0, E1, hT, h0, h1, rfl⟩ := h
  have l0 : E0.length = Z.a.length := by rw [← h0, List.length_map]
  have l1 : E1.length = Z.b.length := by rw [← h1, List.length_map]
  have hla := hok.la
  have hlb := hok.lb
  have hown := hok.own
  rcases (show Z.X.own = 0 ∨ Z.X.own = 1 by omega) with hw | hw
  · refine (open_0 hT hw (by omega) hok.msd hok.tsd).mono fun e w' hP => ?_
    have hlen : lenO Z = E0.length := by unfold lenO; rw [if_pos hw, l0]
    rcases hP with ⟨hl, he, hb⟩ | ⟨hl, he, v', en, hen, ht, hk, ho⟩
    · unfold opI opE opX
      rw [hlen, if_pos hl, if_pos hl, if_pos hl]
      exact ⟨he, Zt.same ⟨v0, v1, E0, E1, hT, h0, h1, rfl⟩ hb⟩
    · unfold opI opE opX
      rw [hlen, if_neg (by omega), if_neg (by omega), if_neg (by omega), if_pos hw, hw]
      refine ⟨he, _, ⟨v', v1, _, E1, ht, ?_, h1, rfl⟩, hk.mono fun j hj => ?_, ho⟩
      · rw [List.map_append, h0, ← l0, ← hen]
        rfl
      · rcases hj with hj | hj
        · exact .inl ⟨(· = s), by unfold TtO; simp, hj⟩
        · exact .inl ⟨obk v0, by unfold TtO; simp, hj⟩
  · refine (open_1 hT hw (by omega) hok.msd hok.tsd).mono fun e w' hP => ?_
    have hlen : lenO Z = E1.length := by unfold lenO; rw [if_neg (by omega), l1]
    rcases hP with ⟨hl, he, hb⟩ | ⟨hl, he, v', en, hen, ht, hk, ho⟩
    · unfold opI opE opX
      rw [hlen, if_pos hl, if_pos hl, if_pos hl]
      exact ⟨he, Zt.same ⟨v0, v1, E0, E1, hT, h0, h1, rfl⟩ hb⟩
    · unfold opI opE opX
      rw [hlen, if_neg (by omega), if_neg (by omega), if_neg (by omega), if_neg (by omega), hw]
      refine ⟨he, _, ⟨v0, v', E0, _, ht, h0, ?_, rfl⟩, hk.mono fun j hj => ?_, ho⟩
      · rw [List.map_append, h1, ← l1, ← hen]
        rfl
      · rcases hj with hj | hj
        · exact .inl ⟨(· = s), by unfold TtO; simp, hj⟩
        · exact .inl ⟨obk v1, by unfold TtO; simp, hj⟩
theorem z_ids (h : Zt w0 W s O Z) (hok : Z.ok) :
    Calls Try.prog 8 #[.pointer (some ⟨s, 0, none⟩)] W fun e w' => ∃ v, e = .returned v ∧ Ow w' W.heap.size 22 v ((riseT Z.a Z.b).map fun T => .int .u64 T.id) ∧ Below W.heap.size W w' := by
  obtain ⟨v0, v1, E0, E1, hT, h0, h1, rfl⟩ := h
  have l0 : E0.length = Z.a.length := by rw [← h0, List.length_map]
  have l1 : E1.length = Z.b.length := by rw [← h1, List.length_map]
  refine (ids_any hT (by rw [l0]; exact hok.la) (by rw [l1]; exact hok.lb)).mono fun e w' ⟨v, he, hO, hb⟩ => ⟨v, he, ?_, hb⟩
  rw [← h0, ← h1, ← rise_T, List.map_map]
  exact hO
set_option maxRecDepth 100000 in
set_option maxHeartbeats 16000000 in
theorem z_write_none (h : Zt w0 W s O Z) (hok : Z.ok) (id : Nat) (hid : id < 18446744073709551616) (v : Value) (hf : findT Z.a Z.b id = none) :
    Calls Try.prog 24 #[.pointer (some ⟨s, 0, none⟩), .int .u64 id, v] W fun e w' => e = .returned (.tuple #[.int .i64 0, .int .i64 22]) ∧ w' = W := by
  obtain ⟨v0, v1, E0, E1, hT, h0, h1, rfl⟩ := h
  have l0 : E0.length = Z.a.length := by rw [← h0, List.length_map]
  have l1 : E1.length = Z.b.length := by rw [← h1, List.length_map]
  have hla := hok.la
  have hlb := hok.lb
  have HF := Lib.hid (find_any hT id hid (by omega) (by omega))
  rw [← h0, ← h1, find_T] at hf
  have hfe : findE E0 E1 id = none := Option.map_eq_none_iff.1 hf
  rw [hfe] at HF
  have HF2 : Hid (Calls Try.prog 28 #[.pointer (some ⟨s, 0, none⟩), .int .u64 (id : Int)] W fun e' w' => e' = .returned (.tuple #[.pointer none, .bool false]) ∧ w' = W) := HF
  clear hT h0 h1 hok hfe hf HF
  go_enter Try.func24, Try.ntmps24
  go_wp2_with (first | (go_at_call 28; (with_reducible refine HF2.out.mono ?_); rintro e' w2 ⟨rfl, rfl⟩) | fail)
  go_ret2
  exact ⟨rfl, rfl⟩
end
end
section
set_option linter.unusedVariables false
set_option linter.unusedSimpArgs false
open Go.RowKit
theorem heap4 (W : World) (a b c d : Obj) : (((((W.alloc a).alloc b).alloc c).alloc d).drew).heap[W.heap.size]? = some a := by
  show ((((W.alloc a).alloc b).alloc c).alloc d).heap[W.heap.size]? = some a
  have e : ∀ (w : World) (o : Obj), (w.alloc o).heap.size = w.heap.size + 1 := fun w o => by
    show (w.heap.push o).size = _
    simp
  rw [Below.heap_alloc _ _ _ (by rw [e, e, e]; omega), Below.heap_alloc _ _ _ (by rw [e, e]; omega), Below.heap_alloc _ _ _ (by rw [e]; omega)]
  show (W.heap.push a)[W.heap.size]? = some a
  simp
theorem below4 (W : World) (a b c d : Obj) : Below W.heap.size W (((((W.alloc a).alloc b).alloc c).alloc d).drew) := by
  have e : ∀ (w : World) (o : Obj), (w.alloc o).heap.size = w.heap.size + 1 := fun w o => by
    show (w.heap.push o).size = _
    simp
  exact (((((Below.refl _ _).alloc (Nat.le_refl _) a).alloc (by rw [e]; omega) b).alloc (by rw [e, e]; omega) c).alloc (by rw [e, e, e]; omega) d).drew
set_option maxRecDepth 100000 in
set_option maxHeartbeats 16000000 in
theorem params63 (W : World) : Calls Try.prog 16 #[.int .i64 63] W fun e w' => e = .returned (.agg (prL 100000 9999 99).toArray) ∧ Below W.heap.size W w' := by
  have b1 : bits BinOp.and IntKind.i64 63 3 = 3 := by decide
  have b2 : bits BinOp.and IntKind.i64 15 3 = 3 := by decide
  have b3 : bits BinOp.and IntKind.i64 3 3 = 3 := by decide
  go_enter Try.func16, Try.ntmps16
  go_upto_region 1 with fail
  go_region
  all_goals
    go_wp2
    refine bodyPost_ret (results_cell_row (fn := Try.f16) (p := 2) (ty := 26) (by rfl) _ _ W.heap.size 26 (prL 100000 9999 99).toArray (0, 0) _ (by rfl) (heap4 W _ _ _ _) Try.underlying26 rfl (by kernel_rfl)) rfl ?_
    exact ⟨rfl, below4 W _ _ _ _⟩
end
end Go.Proofs.Ytndaikeeikimeaa
