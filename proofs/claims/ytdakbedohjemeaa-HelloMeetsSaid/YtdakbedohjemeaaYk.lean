/-
  hello.Side: meet.
-/
import Derived.Test.YtdakbedohjemeaaMq15
namespace Go.Proofs.Ytdakbedohjemeaa
set_option linter.unusedVariables false
set_option linter.unusedSimpArgs false
open Go.RowKit Go.ChangeShapes Go.WideShapes Go.Deep
theorem takeN8 (bs : List Int) : (takeN (bs, false) 8).1 = bs.drop 8 := by
  unfold takeN
  split
  · rfl
  · rename_i h
    have : bs.length < 8 := by simp only at h; omega
    exact (List.drop_eq_nil_of_le (by omega)).symm
theorem takeR_all (s : St) : takeR s (s.1.length : Int) = s.1 := by
  unfold takeR
  rw [if_pos ⟨by omega, by omega⟩]
  simp
section
variable {w w' : World} {base p : Nat} {vo vh : Value} {O : Nat → Prop} {X X' : HS}
theorem Hl.turn (h : Hl w base p vo vh X) (hA : At w' p 64 (hsL X' vo vh)) (k : Kept (· = p) w w') (h1 : X'.own = X.own) (h2 : X'.held = X.held) : Hl w' base p vo vh X' :=
  ⟨hA, h.bp, by rw [h1]; exact h.own.kept k fun i hi e => h.ao (by rw [← e]; exact hi), by rw [h2]; exact h.held.kept k fun i hi e => h.ah (by rw [← e]; exact hi), h.ao, h.ah, h.oh⟩
/-- The row of what both said, in memory. -/
theorem rows2 {W : World} {g : Nat} {d1 d2 : Sl} {r1 r2 : List Int} (hA : At W g 31 [slV d1, slV d2]) (h1 : Rd W W.heap.size d1.A d1.n r1) (h2 : Rd W W.heap.size d2.A d2.n r2) (a1 : d1.n ≤ d1.c) (a2 : d1.c ≤ maxLen) (b1 : d2.n ≤ d2.c) (b2 : d2.c ≤ maxLen) : RowsIn W g 31 [(d1, r1), (d2, r2)] := by
  refine ⟨hA, fun r hr => ?_⟩
  rcases List.mem_cons.1 hr with rfl | hr
  · exact ⟨h1, a1, a2⟩
  · obtain rfl := List.mem_singleton.1 hr
    exact ⟨h2, b1, b2⟩

set_option maxRecDepth 100000 in
set_option maxHeartbeats 4000000 in
theorem h_meet_ask (h : Hm w base p O X) (hk : X.ok) (haz : X.az = true) (A : Option Addr) (n c : Nat) (bs : List Int) (hr : Rd w w.heap.size A n bs) (hn : n ≤ 200) (hnc : n ≤ c) (hc : c ≤ maxLen) (hA : A = none → c = 0) (hbase : base ≤ w.heap.size) :
    Calls Try.prog 73 #[.pointer (some ⟨p, 0, none⟩), .slice A n c] w (HPost (.int .i64 (meetE bs)) base p O (meetX X bs) w) := by
  obtain ⟨vo, vh, h, rfl⟩ := h
  have HBL := Lib.hid hr.1
  have hlt := h.lt
  go_enter Try.func73, Try.ntmps73
  go_wp2_with fail
  refine (of_any A n c bs w hr (by omega) hA).mono ?_
  rintro e w1 ⟨q, rfl, hq, hr1, hb1⟩
  have hql : q < w1.heap.size := by obtain ⟨_, _, _, h, _⟩ := hr1; exact h.lt
  go_wp2_with fail
  refine (raw_any q _ _ (bs, false) 8 w1 hr1 (fun b hb => by omega) (by show bs.length ≤ _; rw [HBL.out]; omega)).mono ?_
  rintro e w2 ⟨v2, rfl, _, hr2, hk2⟩
  have hb2 : Below w.heap.size w w2 := hk2.below hb1 hb1.size (by intro j hj; omega)
  clear hr1 hb1 hk2
  obtain ⟨s2, hs2⟩ : ∃ s, takeN (bs, false) 8 = s := ⟨_, rfl⟩
  rw [hs2] at hr2
  have hsd : s2.1 = bs.drop 8 := by rw [← hs2]; exact takeN8 bs
  have hsl : s2.1.length ≤ 200 := by rw [hsd, List.length_drop, HBL.out]; omega
  have HSD := Lib.hid hsd
  clear hs2 hsd
  go_wp2_with fail
  refine (left_any q _ _ s2 w2 hr2).mono ?_
  rintro e w' ⟨rfl, rfl⟩
  go_wp2_with fail
  refine (raw_any q _ _ s2 _ w2 hr2 (fun b hb => by omega) (by omega)).mono ?_
  rintro e w3 ⟨v3, rfl, ho3, hr3, hk3⟩
  rw [takeR_all, HSD.out] at ho3
  have hb3 : Below w.heap.size w w3 := hk3.below hb2 hb2.size (by intro j hj; omega)
  obtain ⟨m3, hm3⟩ : ∃ m, (bs.drop 8).length = m := ⟨_, rfl⟩
  have hm3l : m3 ≤ 200 := by rw [← hm3, ← HSD.out]; exact hsl
  obtain ⟨A3, c3, rfl, t1, t2, t3⟩ := ho3.open_n m3 hm3
  have ha3 := ho3.nil_cap
  clear hr2 hr3 hk3 hb2 HSD hsl ho3 hm3
  go_wp2_with fail
  refine (pdec_any A3 m3 c3 (bs.drop 8) w3 t3 (by omega) ha3).mono ?_
  rintro e w4 ⟨hd, hb4⟩
  have hb5 := hb3.trans (hb4.mono hb3.size)
  clear hb3 hb4 t1 t2 t3 ha3
  have h4 := h.below hb5
  have hA5 : At (w4.alloc (.cells #[.int .u64 0, .int .u64 0, .int .u64 0, .int .u64 0, .int .u8 0, .int .u8 0, .int .u8 0, .int .u8 0, .int .u8 0, .int .u8 0, .int .u8 0, .int .u8 0] 26)) w4.heap.size 26 (pmL .zero) := At.new w4 26 (pmL .zero)
  have hb6 : Below w.heap.size w (w4.alloc (.cells #[.int .u64 0, .int .u64 0, .int .u64 0, .int .u64 0, .int .u8 0, .int .u8 0, .int .u8 0, .int .u8 0, .int .u8 0, .int .u8 0, .int .u8 0, .int .u8 0] 26)) := hb5.alloc hb5.size _
  have h5 : Hl (w4.alloc (.cells #[.int .u64 0, .int .u64 0, .int .u64 0, .int .u64 0, .int .u8 0, .int .u8 0, .int .u8 0, .int .u8 0, .int .u8 0, .int .u8 0, .int .u8 0, .int .u8 0] 26)) base p vo vh X := h4.below ((Below.refl _ _).alloc (Nat.le_refl _) _)
  obtain ⟨g, hg⟩ : ∃ g, w4.heap.size = g := ⟨_, rfl⟩
  have hgw : w.heap.size ≤ g := by rw [← hg]; exact hb5.size
  obtain ⟨W5, hW5⟩ : ∃ W, w4.alloc (.cells #[.int .u64 0, .int .u64 0, .int .u64 0, .int .u64 0, .int .u8 0, .int .u8 0, .int .u8 0, .int .u8 0, .int .u8 0, .int .u8 0, .int .u8 0, .int .u8 0] 26) = W := ⟨_, rfl⟩
  rw [hW5] at hA5 hb6 h5
  rw [hg] at hA5
  clear h4 hb5
  have hpg : ¬ p = g := by have := (hlt p (.inl rfl)).2; omega
  cases hdec : decodeS (bs.drop 8) with
  | none =>
    have HX := Lib.hid (show meetX X bs = X by unfold meetX; rw [hdec])
    have HE := Lib.hid (show meetE bs = 8 by unfold meetE; rw [hdec])
    rw [hdec] at hd
    simp only at hd
    subst hd
    obtain ⟨L, hL⟩ : ∃ L, pmL .zero = L := ⟨_, rfl⟩
    have hLl : L.length = 12 := by rw [← hL]; rfl
    have hLo : L.all (·.oneCell') = true := by rw [← hL]; rfl
    have hfv : pmV .zero = .agg L.toArray := by rw [← hL]; rfl
    rw [hfv]
    rw [hL] at hA5
    clear hL hfv hdec hlt
    have HLl := Lib.hid hLl
    have HLo := Lib.hid hLo
    clear hLl hLo
    go_wp2_with (first | ((with_reducible refine at_stp ?_); refine st_pm _ L L (by rfl) (by rfl) hA5 HLl.out HLl.out HLo.out ?_; intro w9 hA9 hk9) | fail)
    go_ret
    rw [HX.out, HE.out]
    exact h.post (h5.kept hk9 (fun j hj => by have := (h.lt j hj).2; omega)) (Kept.of_below (hk9.below hb6 hb6.size (by intro j hj; omega)) _) (fun j hj => .inl hj) _
  | some pd =>
    have HX := Lib.hid (show meetX X bs = { X with th := pd, st := 1, sh := keyedS X.psk (rowsS X bs) } by unfold meetX; rw [hdec])
    have HE := Lib.hid (show meetE bs = 0 by unfold meetE; rw [hdec])
    rw [hdec] at hd
    simp only at hd
    subst hd
    obtain ⟨L, hL⟩ : ∃ L, pmL pd = L := ⟨_, rfl⟩
    have hLl : L.length = 12 := by rw [← hL]; rfl
    have hLo : L.all (·.oneCell') = true := by rw [← hL]; rfl
    have hfv : pmV pd = .agg L.toArray := by rw [← hL]; rfl
    have HSF := Lib.hid (show ∀ sh, setFrom (hsL { X with sh := sh } vo vh) 5 L = hsL { X with sh := sh, th := pd } vo vh by intro sh; rw [← hL]; rfl)
    rw [hfv]
    obtain ⟨no, hno⟩ : ∃ m, X.own.length = m := ⟨_, rfl⟩
    have hnol : no ≤ 300 := by rw [← hno]; exact hk.ol
    have hown := h5.own
    obtain ⟨Ao, co, rfl, o1, o2, o3⟩ := hown.open_n no hno
    have HR1 := Lib.hid (show X.own ++ msgS 1 bs = rowsS X bs by unfold rowsS; rw [haz]; rfl)
    have HRL := Lib.hid (show (msgS 1 bs).length = n + 3 by rw [msgS_len, HBL.out])
    have HOL := Lib.hid hno
    have HRR := Lib.hid (show (rowsS X bs).length = no + (n + 3) by rw [← HR1.out, List.length_append, HRL.out, hno])
    have HCL := Lib.hid (show ∀ d1 d2, catS [(d1, X.own), (d2, msgS 1 bs)] = rowsS X bs by intro d1 d2; rw [← HR1.out]; simp [catS])
    have hkb := keyedS_bd X.psk (rowsS X bs)
    have hz1 := hk.k0
    have hz2 := hk.k1
    have HLl := Lib.hid hLl
    have HLo := Lib.hid hLo
    clear hL hfv hdec hLl hLo hno hown o3 hk
    go_wp2_with (first | ((with_reducible refine at_stp ?_); refine st_pm _ (pmL .zero) L (by rfl) (by rfl) hA5 (by rfl) HLl.out HLo.out ?_; intro W6 hA6 hk6) | fail)
    have h6 := h5.kept hk6 (fun j hj => by have := (hlt j hj).2; omega)
    have hb7 := hk6.below hb6 hb6.size (by intro j hj; omega)
    have hg6 := hA6.lt
    clear hA5 hb6 h5 hk6 hW5 hg
    obtain ⟨W7, hW7⟩ : ∃ W, W6.drew = W := ⟨_, rfl⟩
    have h7 := h6.drewN 1
    have hA7 := hA6.drewN 1
    have hb7 := belowN hb7 1
    rw [show W6.drewN 1 = W6.drew from rfl] at h7 hA7 hb7
    have c2 := h7.c2
    refine wp_region_held_drew (S := fun W => W.cell? ⟨p, 2, none⟩ = some (.slice Ao no co)) (by kernel_rfl) (c2) (fun hHeld => ?_)
    rw [hW7] at h7 hA7 hb7 c2 ⊢
    refine tkq 0 (some 24) (v := ?_) rfl (Or.inl ⟨by rfl, ?_⟩) (by assumption) ?_
    rotate_left
    · intro w hSw; (try dsimp only at hSw); go_simp; first | done | (with_reducible rfl)
    simp only [Act.put, List.setIfInBounds_toArray, List.set_cons_zero, List.set_cons_succ]
    refine tkq 1 (some 25) (v := ?_) rfl (Or.inl ⟨by rfl, ?_⟩) (by assumption) ?_
    rotate_left
    · intro w hSw; (try dsimp only at hSw); go_simp; first | done | (with_reducible rfl)
    simp only [Act.put, List.setIfInBounds_toArray, List.set_cons_zero, List.set_cons_succ]
    refine tkq 2 (some 26) (v := ?_) rfl (Or.inl ⟨by rfl, ?_⟩) (by assumption) ?_
    rotate_left
    · intro w hSw; (try dsimp only at hSw); go_simp; first | done | (with_reducible rfl)
    simp only [Act.put, List.setIfInBounds_toArray, List.set_cons_zero, List.set_cons_succ]
    refine tkq 3 (some 27) (v := ?_) rfl (Or.inl ⟨by rfl, ?_⟩) (by assumption) ?_
    rotate_left
    · intro w hSw; (try dsimp only at hSw); go_simp; first | done | (with_reducible rfl)
    simp only [Act.put, List.setIfInBounds_toArray, List.set_cons_zero, List.set_cons_succ]
    refine tkq 4 (some 28) (v := ?_) rfl (Or.inl ⟨by rfl, ?_⟩) (by assumption) ?_
    rotate_left
    · intro w hSw; (try dsimp only at hSw); go_simp; first | done | (with_reducible rfl)
    simp only [Act.put, List.setIfInBounds_toArray, List.set_cons_zero, List.set_cons_succ]
    refine wpAnyH_ready (rs := [5]) (by kernel_rfl) (by simp) ?_
    refine AllReadyH.cons rfl (fun K hK => ?_) AllReadyH.nil
    go_simp
    go_wp2_with (go_at_call 37; refine (hmsg_any 1 A n c bs W7 (by omega) ((hr.below hb7).more hb7.size) (by omega)).mono ?_; rintro e W8 ⟨v8, rfl, ho8, hb8⟩)
    obtain ⟨A8, c8, rfl, m1, m2, m3⟩ := ho8.open_n (n + 3) HRL.out
    have h8 := h7.below hb8
    have hA8 := hA7.below hb8 hA7.lt
    have hb8 := hb7.trans (hb8.mono hb7.size)
    have c8 := h8.c2
    refine hK.out _ _ (c8) (fun hHeld => ?_)
    clear hK K
    refine tkq 6 (some 8) (v := ?_) rfl (Or.inl ⟨by rfl, ?_⟩) (by assumption) ?_
    rotate_left
    · intro w hSw; (try dsimp only at hSw); go_simp; first | done | (with_reducible rfl)
    simp only [Act.put, List.setIfInBounds_toArray, List.set_cons_zero, List.set_cons_succ]
    refine tkq 7 (some 9) (v := ?_) rfl (Or.inl ⟨by rfl, ?_⟩) (by assumption) ?_
    rotate_left
    · intro w hSw; (try dsimp only at hSw); go_simp; first | done | (with_reducible rfl)
    simp only [Act.put, List.setIfInBounds_toArray, List.set_cons_zero, List.set_cons_succ]
    refine wpAnyH_done (by kernel_rfl) ?_ _
    have c0 := h8.c0
    rw [haz] at c0
    clear h7 hA7 hb7 c2 hW7
    go_wp2_with fail
    have hkb2 := hkb
    clear c0 c8 hkb2
    obtain ⟨W9, hW9⟩ : ∃ W, W8.drew = W := ⟨_, rfl⟩
    have h9 := h8.drewN 1
    have hA9 := hA8.drewN 1
    have hb9 := belowN hb8 1
    have m9 : Rd W8.drew W8.drew.heap.size A8 (n + 3) (msgS 1 bs) := m3
    rw [show W8.drewN 1 = W8.drew from rfl] at h9 hA9 hb9
    have cc9 := h9.c1
    have o9 : Rd W8.drew W8.drew.heap.size Ao no X.own := by
      obtain ⟨A', c', e', _, _, o⟩ := h9.own.open_n no HOL.out
      injection e' with e1 e2 e3
      subst e1
      exact o
    clear h8 hA8 hb8 m3
    refine wp_region_held_drew (S := fun W => W.cell? ⟨p, 1, none⟩ = some (.int .u64 X.psk)) (by kernel_rfl) (cc9) (fun hHeld => ?_)
    rw [hW9] at h9 hA9 hb9 cc9 m9 o9 ⊢
    clear hW9 hHeld
    have ba : Below W9.heap.size W9 (W9.alloc (.cells #[.slice Ao no co, .slice A8 (n + 3) c8] 31)) := (Below.refl _ _).alloc (Nat.le_refl _) _
    have hAr : At (W9.alloc (.cells #[.slice Ao no co, .slice A8 (n + 3) c8] 31)) W9.heap.size 31 [slV ⟨Ao, no, co⟩, slV ⟨A8, n + 3, c8⟩] := At.new W9 _ [.slice Ao no co, .slice A8 (n + 3) c8]
    have hR := rows2 hAr ((o9.below ba).more ba.size) ((m9.below ba).more ba.size) o1 o2 m1 m2
    have h10 := h9.below ba
    have hA10 := hA9.below ba hA9.lt
    have hb10 := hb9.trans (ba.mono hb9.size)
    have c10 := h10.c1
    obtain ⟨g2, hg2⟩ : ∃ x, W9.heap.size = x := ⟨_, rfl⟩
    rw [hg2] at hR
    obtain ⟨W10, hW10⟩ : ∃ W, W9.alloc (.cells #[.slice Ao no co, .slice A8 (n + 3) c8] 31) = W := ⟨_, rfl⟩
    rw [hW10] at hR h10 hA10 hb10 c10
    clear ba hAr o9 m9 h9 hA9 hb9
    refine tkq 0 (some 37) (v := ?_) rfl (Or.inl ⟨by rfl, ?_⟩) (by assumption) ?_
    rotate_left
    · intro w hSw; (try dsimp only at hSw); go_simp; first | done | (with_reducible rfl)
    simp only [Act.put, List.setIfInBounds_toArray, List.set_cons_zero, List.set_cons_succ]
    refine tkq 1 (some 38) (v := ?_) rfl (Or.inl ⟨by rfl, ?_⟩) (by assumption) ?_
    rotate_left
    · intro w hSw; (try dsimp only at hSw); go_simp; first | done | (with_reducible rfl)
    simp only [Act.put, List.setIfInBounds_toArray, List.set_cons_zero, List.set_cons_succ]
    refine tkq 2 (some 39) (v := ?_) rfl (Or.inl ⟨by rfl, ?_⟩) (by assumption) ?_
    rotate_left
    · intro w hSw; (try dsimp only at hSw); go_simp; first | done | (with_reducible rfl)
    simp only [Act.put, List.setIfInBounds_toArray, List.set_cons_zero, List.set_cons_succ]
    refine tkq 3 (some 40) (v := ?_) rfl (Or.inl ⟨by rfl, ?_⟩) (by assumption) ?_
    rotate_left
    · intro w hSw; (try dsimp only at hSw); go_simp; first | done | (with_reducible rfl)
    simp only [Act.put, List.setIfInBounds_toArray, List.set_cons_zero, List.set_cons_succ]
    refine tkq 4 (some 41) (v := ?_) rfl (Or.inl ⟨by rfl, ?_⟩) (by assumption) ?_
    rotate_left
    · intro w hSw; (try dsimp only at hSw); go_simp; first | done | (with_reducible rfl)
    simp only [Act.put, List.setIfInBounds_toArray, List.set_cons_zero, List.set_cons_succ]
    refine tkq 5 (some 42) (v := ?_) rfl (Or.inl ⟨by rfl, ?_⟩) (by assumption) ?_
    rotate_left
    · intro w hSw; (try dsimp only at hSw); go_simp; first | done | (with_reducible rfl)
    simp only [Act.put, List.setIfInBounds_toArray, List.set_cons_zero, List.set_cons_succ]
    refine tkq 6 (some 43) (v := ?_) rfl (Or.inl ⟨by rfl, ?_⟩) (by assumption) ?_
    rotate_left
    · intro w hSw; (try dsimp only at hSw); go_simp; first | done | (with_reducible rfl)
    simp only [Act.put, List.setIfInBounds_toArray, List.set_cons_zero, List.set_cons_succ]
    refine wpAnyH_ready (rs := [7]) (by kernel_rfl) (by simp) ?_
    refine AllReadyH.cons rfl (fun K hK => ?_) AllReadyH.nil
    go_simp
    go_wp2_with (fail)
    refine hK.out _ _ (by first | exact c10 | (rw [hW10]; exact c10)) (fun hHeld => ?_)
    clear hK K
    (try rw [hW10])
    clear hW10
    refine wpAnyH_ready (rs := [8]) (by kernel_rfl) (by simp) ?_
    refine AllReadyH.cons rfl (fun K hK => ?_) AllReadyH.nil
    go_simp
    go_wp2_with (go_at_call 47; refine (concat_any g2 2 _ _ W10 rfl hR (by rw [HCL.out, HRR.out]; omega) (by omega)).mono ?_; rintro e W11 ⟨v11, rfl, ho11, hb11⟩)
    rw [HCL.out] at ho11
    obtain ⟨A11, c11, rfl, u1, u2, u3⟩ := ho11.open_n (no + (n + 3)) HRR.out
    have h11 := h10.below hb11
    have hA11 := hA10.below hb11 hA10.lt
    have hb11 := hb10.trans (hb11.mono hb10.size)
    have c11 := h11.c1
    clear h10 hA10 hR hb10 c10 ho11
    refine hK.out _ _ (c11) (fun hHeld => ?_)
    clear hK K
    refine wpAnyH_ready (rs := [9]) (by kernel_rfl) (by simp) ?_
    refine AllReadyH.cons rfl (fun K hK => ?_) AllReadyH.nil
    go_simp
    go_wp2_with (go_at_call 60; refine (keyed_any X.psk A11 (no + (n + 3)) _ (rowsS X bs) W11 _ u3 u1 u2 hz1 hz2).mono ?_; rintro e w' ⟨rfl, rfl⟩)
    refine hK.out _ _ (c11) (fun hHeld => ?_)
    clear hK K
    generalize keyedS X.psk (rowsS X bs) = K at *
    have c17 := h11.c17
    have f17 := h11.fz 17
    have h12 : Hl (W11.setCell ⟨p, 17, none⟩ (.int .u64 K)) base p (.slice Ao no co) vh { X with sh := K } := h11.set 17 (.int .u64 K) rfl rfl rfl
    have k12 : Kept (· = p) W11 (W11.setCell ⟨p, 17, none⟩ (.int .u64 K)) := (Kept.refl _ _).setAt _ _
    have hA12 := hA11.kept k12 (fun e => hpg e.symm)
    have c12 : (W11.setCell ⟨p, 17, none⟩ (.int .u64 K)).cell? ⟨p, 1, none⟩ = some (.int .u64 X.psk) := h12.c1
    refine tkq 10 (some 47) (v := ?_) rfl (Or.inl ⟨by rfl, ?_⟩) (by assumption) ?_
    rotate_left
    · intro w hSw; (try dsimp only at hSw); go_simp; first | done | (with_reducible rfl)
    simp only [Act.put, List.setIfInBounds_toArray, List.set_cons_zero, List.set_cons_succ]
    refine tkq 11 (some 48) (v := ?_) rfl (Or.inl ⟨by rfl, ?_⟩) (by assumption) ?_
    rotate_left
    · intro w hSw; (try dsimp only at hSw); go_simp; first | done | (with_reducible rfl)
    simp only [Act.put, List.setIfInBounds_toArray, List.set_cons_zero, List.set_cons_succ]
    refine wpAnyH_ready (rs := [12]) (by kernel_rfl) (by simp) ?_
    refine AllReadyH.cons rfl (fun K hK => ?_) AllReadyH.nil
    go_simp
    go_wp2_with fail
    refine hK.out _ _ (c12) (fun hHeld => ?_)
    clear hK K
    refine wpAnyH_done (by kernel_rfl) ?_ _
    have H12 := Lib.hid h12.at_
    clear c17 f17 c12 c11
    go_wp2_with (first | ((with_reducible refine at_ldp ?_); refine ld_pm g L (by rfl) hA12 HLl.out ?_) | ((with_reducible refine at_stp ?_); refine wpList_store_sub p 5 _ _ (hsL { X with sh := K, th := pd } (.slice Ao no co) vh) L (by rfl) (by rfl) H12.out (by rw [HLl.out]; show 5 + 12 ≤ 19; omega) (by rw [HLl.out]; exact pm_info) HLo.out (HSF.out K) ?_; intro W13 hA13 k13; have h13 : Hl W13 base p (.slice Ao no co) vh { X with sh := K, th := pd } := h12.turn hA13 k13 rfl rfl; have c3 : W13.cell? ⟨p, 3, none⟩ = some (.int .i64 X.st) := h13.c3; have f3 := h13.fz 3) | fail)
    go_ret
    have h14 : Hl (W13.setCell ⟨p, 3, none⟩ (.int .i64 1)) base p (.slice Ao no co) vh { X with sh := K, th := pd, st := 1 } := h13.set 3 (.int .i64 1) rfl rfl rfl
    have k14 : Kept (· = p) W13 (W13.setCell ⟨p, 3, none⟩ (.int .i64 1)) := (Kept.refl _ _).setAt _ _
    rw [HX.out, HE.out]
    exact h.post h14 ((Kept.of_below hb11 _).trans (((k12.trans k13).trans k14).mono (fun j hj => .inl (.inl hj)))) (fun j hj => .inl hj) _

set_option maxRecDepth 100000 in
set_option maxHeartbeats 4000000 in
theorem h_meet_answer (h : Hm w base p O X) (hk : X.ok) (haz : X.az = false) (A : Option Addr) (n c : Nat) (bs : List Int) (hr : Rd w w.heap.size A n bs) (hn : n ≤ 200) (hnc : n ≤ c) (hc : c ≤ maxLen) (hA : A = none → c = 0) (hbase : base ≤ w.heap.size) :
    Calls Try.prog 73 #[.pointer (some ⟨p, 0, none⟩), .slice A n c] w (HPost (.int .i64 (meetE bs)) base p O (meetX X bs) w) := by
  obtain ⟨vo, vh, h, rfl⟩ := h
  have HBL := Lib.hid hr.1
  have hlt := h.lt
  go_enter Try.func73, Try.ntmps73
  go_wp2_with fail
  refine (of_any A n c bs w hr (by omega) hA).mono ?_
  rintro e w1 ⟨q, rfl, hq, hr1, hb1⟩
  have hql : q < w1.heap.size := by obtain ⟨_, _, _, h, _⟩ := hr1; exact h.lt
  go_wp2_with fail
  refine (raw_any q _ _ (bs, false) 8 w1 hr1 (fun b hb => by omega) (by show bs.length ≤ _; rw [HBL.out]; omega)).mono ?_
  rintro e w2 ⟨v2, rfl, _, hr2, hk2⟩
  have hb2 : Below w.heap.size w w2 := hk2.below hb1 hb1.size (by intro j hj; omega)
  clear hr1 hb1 hk2
  obtain ⟨s2, hs2⟩ : ∃ s, takeN (bs, false) 8 = s := ⟨_, rfl⟩
  rw [hs2] at hr2
  have hsd : s2.1 = bs.drop 8 := by rw [← hs2]; exact takeN8 bs
  have hsl : s2.1.length ≤ 200 := by rw [hsd, List.length_drop, HBL.out]; omega
  have HSD := Lib.hid hsd
  clear hs2 hsd
  go_wp2_with fail
  refine (left_any q _ _ s2 w2 hr2).mono ?_
  rintro e w' ⟨rfl, rfl⟩
  go_wp2_with fail
  refine (raw_any q _ _ s2 _ w2 hr2 (fun b hb => by omega) (by omega)).mono ?_
  rintro e w3 ⟨v3, rfl, ho3, hr3, hk3⟩
  rw [takeR_all, HSD.out] at ho3
  have hb3 : Below w.heap.size w w3 := hk3.below hb2 hb2.size (by intro j hj; omega)
  obtain ⟨m3, hm3⟩ : ∃ m, (bs.drop 8).length = m := ⟨_, rfl⟩
  have hm3l : m3 ≤ 200 := by rw [← hm3, ← HSD.out]; exact hsl
  obtain ⟨A3, c3, rfl, t1, t2, t3⟩ := ho3.open_n m3 hm3
  have ha3 := ho3.nil_cap
  clear hr2 hr3 hk3 hb2 HSD hsl ho3 hm3
  go_wp2_with fail
  refine (pdec_any A3 m3 c3 (bs.drop 8) w3 t3 (by omega) ha3).mono ?_
  rintro e w4 ⟨hd, hb4⟩
  have hb5 := hb3.trans (hb4.mono hb3.size)
  clear hb3 hb4 t1 t2 t3 ha3
  have h4 := h.below hb5
  have hA5 : At (w4.alloc (.cells #[.int .u64 0, .int .u64 0, .int .u64 0, .int .u64 0, .int .u8 0, .int .u8 0, .int .u8 0, .int .u8 0, .int .u8 0, .int .u8 0, .int .u8 0, .int .u8 0] 26)) w4.heap.size 26 (pmL .zero) := At.new w4 26 (pmL .zero)
  have hb6 : Below w.heap.size w (w4.alloc (.cells #[.int .u64 0, .int .u64 0, .int .u64 0, .int .u64 0, .int .u8 0, .int .u8 0, .int .u8 0, .int .u8 0, .int .u8 0, .int .u8 0, .int .u8 0, .int .u8 0] 26)) := hb5.alloc hb5.size _
  have h5 : Hl (w4.alloc (.cells #[.int .u64 0, .int .u64 0, .int .u64 0, .int .u64 0, .int .u8 0, .int .u8 0, .int .u8 0, .int .u8 0, .int .u8 0, .int .u8 0, .int .u8 0, .int .u8 0] 26)) base p vo vh X := h4.below ((Below.refl _ _).alloc (Nat.le_refl _) _)
  obtain ⟨g, hg⟩ : ∃ g, w4.heap.size = g := ⟨_, rfl⟩
  have hgw : w.heap.size ≤ g := by rw [← hg]; exact hb5.size
  obtain ⟨W5, hW5⟩ : ∃ W, w4.alloc (.cells #[.int .u64 0, .int .u64 0, .int .u64 0, .int .u64 0, .int .u8 0, .int .u8 0, .int .u8 0, .int .u8 0, .int .u8 0, .int .u8 0, .int .u8 0, .int .u8 0] 26) = W := ⟨_, rfl⟩
  rw [hW5] at hA5 hb6 h5
  rw [hg] at hA5
  clear h4 hb5
  have hpg : ¬ p = g := by have := (hlt p (.inl rfl)).2; omega
  cases hdec : decodeS (bs.drop 8) with
  | none =>
    have HX := Lib.hid (show meetX X bs = X by unfold meetX; rw [hdec])
    have HE := Lib.hid (show meetE bs = 8 by unfold meetE; rw [hdec])
    rw [hdec] at hd
    simp only at hd
    subst hd
    obtain ⟨L, hL⟩ : ∃ L, pmL .zero = L := ⟨_, rfl⟩
    have hLl : L.length = 12 := by rw [← hL]; rfl
    have hLo : L.all (·.oneCell') = true := by rw [← hL]; rfl
    have hfv : pmV .zero = .agg L.toArray := by rw [← hL]; rfl
    rw [hfv]
    rw [hL] at hA5
    clear hL hfv hdec hlt
    have HLl := Lib.hid hLl
    have HLo := Lib.hid hLo
    clear hLl hLo
    go_wp2_with (first | ((with_reducible refine at_stp ?_); refine st_pm _ L L (by rfl) (by rfl) hA5 HLl.out HLl.out HLo.out ?_; intro w9 hA9 hk9) | fail)
    go_ret
    rw [HX.out, HE.out]
    exact h.post (h5.kept hk9 (fun j hj => by have := (h.lt j hj).2; omega)) (Kept.of_below (hk9.below hb6 hb6.size (by intro j hj; omega)) _) (fun j hj => .inl hj) _
  | some pd =>
    have HX := Lib.hid (show meetX X bs = { X with th := pd, st := 1, sh := keyedS X.psk (rowsS X bs) } by unfold meetX; rw [hdec])
    have HE := Lib.hid (show meetE bs = 0 by unfold meetE; rw [hdec])
    rw [hdec] at hd
    simp only at hd
    subst hd
    obtain ⟨L, hL⟩ : ∃ L, pmL pd = L := ⟨_, rfl⟩
    have hLl : L.length = 12 := by rw [← hL]; rfl
    have hLo : L.all (·.oneCell') = true := by rw [← hL]; rfl
    have hfv : pmV pd = .agg L.toArray := by rw [← hL]; rfl
    have HSF := Lib.hid (show ∀ sh, setFrom (hsL { X with sh := sh } vo vh) 5 L = hsL { X with sh := sh, th := pd } vo vh by intro sh; rw [← hL]; rfl)
    rw [hfv]
    obtain ⟨no, hno⟩ : ∃ m, X.own.length = m := ⟨_, rfl⟩
    have hnol : no ≤ 300 := by rw [← hno]; exact hk.ol
    have hown := h5.own
    obtain ⟨Ao, co, rfl, o1, o2, o3⟩ := hown.open_n no hno
    have HR1 := Lib.hid (show msgS 1 bs ++ X.own = rowsS X bs by unfold rowsS; rw [haz]; rfl)
    have HRL := Lib.hid (show (msgS 1 bs).length = n + 3 by rw [msgS_len, HBL.out])
    have HOL := Lib.hid hno
    have HRR := Lib.hid (show (rowsS X bs).length = no + (n + 3) by rw [← HR1.out, List.length_append, HRL.out, hno]; omega)
    have HCL := Lib.hid (show ∀ d1 d2, catS [(d1, msgS 1 bs), (d2, X.own)] = rowsS X bs by intro d1 d2; rw [← HR1.out]; simp [catS])
    have hkb := keyedS_bd X.psk (rowsS X bs)
    have hz1 := hk.k0
    have hz2 := hk.k1
    have HLl := Lib.hid hLl
    have HLo := Lib.hid hLo
    clear hL hfv hdec hLl hLo hno hown o3 hk
    go_wp2_with (first | ((with_reducible refine at_stp ?_); refine st_pm _ (pmL .zero) L (by rfl) (by rfl) hA5 (by rfl) HLl.out HLo.out ?_; intro W6 hA6 hk6) | fail)
    have h6 := h5.kept hk6 (fun j hj => by have := (hlt j hj).2; omega)
    have hb7 := hk6.below hb6 hb6.size (by intro j hj; omega)
    have hg6 := hA6.lt
    clear hA5 hb6 h5 hk6 hW5 hg
    obtain ⟨W7, hW7⟩ : ∃ W, W6.drew = W := ⟨_, rfl⟩
    have h7 := h6.drewN 1
    have hA7 := hA6.drewN 1
    have hb7 := belowN hb7 1
    rw [show W6.drewN 1 = W6.drew from rfl] at h7 hA7 hb7
    have c2 := h7.c2
    refine wp_region_held_drew (S := fun W => W.cell? ⟨p, 2, none⟩ = some (.slice Ao no co)) (by kernel_rfl) (c2) (fun hHeld => ?_)
    rw [hW7] at h7 hA7 hb7 c2 ⊢
    refine tkq 0 (some 24) (v := ?_) rfl (Or.inl ⟨by rfl, ?_⟩) (by assumption) ?_
    rotate_left
    · intro w hSw; (try dsimp only at hSw); go_simp; first | done | (with_reducible rfl)
    simp only [Act.put, List.setIfInBounds_toArray, List.set_cons_zero, List.set_cons_succ]
    refine tkq 1 (some 25) (v := ?_) rfl (Or.inl ⟨by rfl, ?_⟩) (by assumption) ?_
    rotate_left
    · intro w hSw; (try dsimp only at hSw); go_simp; first | done | (with_reducible rfl)
    simp only [Act.put, List.setIfInBounds_toArray, List.set_cons_zero, List.set_cons_succ]
    refine tkq 2 (some 26) (v := ?_) rfl (Or.inl ⟨by rfl, ?_⟩) (by assumption) ?_
    rotate_left
    · intro w hSw; (try dsimp only at hSw); go_simp; first | done | (with_reducible rfl)
    simp only [Act.put, List.setIfInBounds_toArray, List.set_cons_zero, List.set_cons_succ]
    refine tkq 3 (some 27) (v := ?_) rfl (Or.inl ⟨by rfl, ?_⟩) (by assumption) ?_
    rotate_left
    · intro w hSw; (try dsimp only at hSw); go_simp; first | done | (with_reducible rfl)
    simp only [Act.put, List.setIfInBounds_toArray, List.set_cons_zero, List.set_cons_succ]
    refine tkq 4 (some 28) (v := ?_) rfl (Or.inl ⟨by rfl, ?_⟩) (by assumption) ?_
    rotate_left
    · intro w hSw; (try dsimp only at hSw); go_simp; first | done | (with_reducible rfl)
    simp only [Act.put, List.setIfInBounds_toArray, List.set_cons_zero, List.set_cons_succ]
    refine wpAnyH_ready (rs := [5]) (by kernel_rfl) (by simp) ?_
    refine AllReadyH.cons rfl (fun K hK => ?_) AllReadyH.nil
    go_simp
    go_wp2_with (go_at_call 37; refine (hmsg_any 1 A n c bs W7 (by omega) ((hr.below hb7).more hb7.size) (by omega)).mono ?_; rintro e W8 ⟨v8, rfl, ho8, hb8⟩)
    obtain ⟨A8, c8, rfl, m1, m2, m3⟩ := ho8.open_n (n + 3) HRL.out
    have h8 := h7.below hb8
    have hA8 := hA7.below hb8 hA7.lt
    have hb8 := hb7.trans (hb8.mono hb7.size)
    have c8 := h8.c2
    refine hK.out _ _ (c8) (fun hHeld => ?_)
    clear hK K
    refine tkq 6 (some 8) (v := ?_) rfl (Or.inl ⟨by rfl, ?_⟩) (by assumption) ?_
    rotate_left
    · intro w hSw; (try dsimp only at hSw); go_simp; first | done | (with_reducible rfl)
    simp only [Act.put, List.setIfInBounds_toArray, List.set_cons_zero, List.set_cons_succ]
    refine tkq 7 (some 9) (v := ?_) rfl (Or.inl ⟨by rfl, ?_⟩) (by assumption) ?_
    rotate_left
    · intro w hSw; (try dsimp only at hSw); go_simp; first | done | (with_reducible rfl)
    simp only [Act.put, List.setIfInBounds_toArray, List.set_cons_zero, List.set_cons_succ]
    refine wpAnyH_done (by kernel_rfl) ?_ _
    have c0 := h8.c0
    rw [haz] at c0
    clear h7 hA7 hb7 c2 hW7
    go_wp2_with fail
    have hkb2 := hkb
    clear c0 c8 hkb2
    obtain ⟨W9, hW9⟩ : ∃ W, W8.drew = W := ⟨_, rfl⟩
    have h9 := h8.drewN 1
    have hA9 := hA8.drewN 1
    have hb9 := belowN hb8 1
    have m9 : Rd W8.drew W8.drew.heap.size A8 (n + 3) (msgS 1 bs) := m3
    rw [show W8.drewN 1 = W8.drew from rfl] at h9 hA9 hb9
    have cc9 := h9.c1
    have o9 : Rd W8.drew W8.drew.heap.size Ao no X.own := by
      obtain ⟨A', c', e', _, _, o⟩ := h9.own.open_n no HOL.out
      injection e' with e1 e2 e3
      subst e1
      exact o
    clear h8 hA8 hb8 m3
    refine wp_region_held_drew (S := fun W => W.cell? ⟨p, 1, none⟩ = some (.int .u64 X.psk)) (by kernel_rfl) (cc9) (fun hHeld => ?_)
    rw [hW9] at h9 hA9 hb9 cc9 m9 o9 ⊢
    clear hW9 hHeld
    have ba : Below W9.heap.size W9 (W9.alloc (.cells #[.slice A8 (n + 3) c8, .slice Ao no co] 31)) := (Below.refl _ _).alloc (Nat.le_refl _) _
    have hAr : At (W9.alloc (.cells #[.slice A8 (n + 3) c8, .slice Ao no co] 31)) W9.heap.size 31 [slV ⟨A8, n + 3, c8⟩, slV ⟨Ao, no, co⟩] := At.new W9 _ [.slice A8 (n + 3) c8, .slice Ao no co]
    have hR := rows2 hAr ((m9.below ba).more ba.size) ((o9.below ba).more ba.size) m1 m2 o1 o2
    have h10 := h9.below ba
    have hA10 := hA9.below ba hA9.lt
    have hb10 := hb9.trans (ba.mono hb9.size)
    have c10 := h10.c1
    obtain ⟨g2, hg2⟩ : ∃ x, W9.heap.size = x := ⟨_, rfl⟩
    rw [hg2] at hR
    obtain ⟨W10, hW10⟩ : ∃ W, W9.alloc (.cells #[.slice A8 (n + 3) c8, .slice Ao no co] 31) = W := ⟨_, rfl⟩
    rw [hW10] at hR h10 hA10 hb10 c10
    clear ba hAr o9 m9 h9 hA9 hb9
    refine tkq 0 (some 37) (v := ?_) rfl (Or.inl ⟨by rfl, ?_⟩) (by assumption) ?_
    rotate_left
    · intro w hSw; (try dsimp only at hSw); go_simp; first | done | (with_reducible rfl)
    simp only [Act.put, List.setIfInBounds_toArray, List.set_cons_zero, List.set_cons_succ]
    refine tkq 1 (some 38) (v := ?_) rfl (Or.inl ⟨by rfl, ?_⟩) (by assumption) ?_
    rotate_left
    · intro w hSw; (try dsimp only at hSw); go_simp; first | done | (with_reducible rfl)
    simp only [Act.put, List.setIfInBounds_toArray, List.set_cons_zero, List.set_cons_succ]
    refine tkq 2 (some 39) (v := ?_) rfl (Or.inl ⟨by rfl, ?_⟩) (by assumption) ?_
    rotate_left
    · intro w hSw; (try dsimp only at hSw); go_simp; first | done | (with_reducible rfl)
    simp only [Act.put, List.setIfInBounds_toArray, List.set_cons_zero, List.set_cons_succ]
    refine tkq 3 (some 40) (v := ?_) rfl (Or.inl ⟨by rfl, ?_⟩) (by assumption) ?_
    rotate_left
    · intro w hSw; (try dsimp only at hSw); go_simp; first | done | (with_reducible rfl)
    simp only [Act.put, List.setIfInBounds_toArray, List.set_cons_zero, List.set_cons_succ]
    refine tkq 4 (some 41) (v := ?_) rfl (Or.inl ⟨by rfl, ?_⟩) (by assumption) ?_
    rotate_left
    · intro w hSw; (try dsimp only at hSw); go_simp; first | done | (with_reducible rfl)
    simp only [Act.put, List.setIfInBounds_toArray, List.set_cons_zero, List.set_cons_succ]
    refine tkq 5 (some 42) (v := ?_) rfl (Or.inl ⟨by rfl, ?_⟩) (by assumption) ?_
    rotate_left
    · intro w hSw; (try dsimp only at hSw); go_simp; first | done | (with_reducible rfl)
    simp only [Act.put, List.setIfInBounds_toArray, List.set_cons_zero, List.set_cons_succ]
    refine tkq 6 (some 43) (v := ?_) rfl (Or.inl ⟨by rfl, ?_⟩) (by assumption) ?_
    rotate_left
    · intro w hSw; (try dsimp only at hSw); go_simp; first | done | (with_reducible rfl)
    simp only [Act.put, List.setIfInBounds_toArray, List.set_cons_zero, List.set_cons_succ]
    refine wpAnyH_ready (rs := [7]) (by kernel_rfl) (by simp) ?_
    refine AllReadyH.cons rfl (fun K hK => ?_) AllReadyH.nil
    go_simp
    go_wp2_with (fail)
    refine hK.out _ _ (by first | exact c10 | (rw [hW10]; exact c10)) (fun hHeld => ?_)
    clear hK K
    (try rw [hW10])
    clear hW10
    refine wpAnyH_ready (rs := [8]) (by kernel_rfl) (by simp) ?_
    refine AllReadyH.cons rfl (fun K hK => ?_) AllReadyH.nil
    go_simp
    go_wp2_with (go_at_call 47; refine (concat_any g2 2 _ _ W10 rfl hR (by rw [HCL.out, HRR.out]; omega) (by omega)).mono ?_; rintro e W11 ⟨v11, rfl, ho11, hb11⟩)
    rw [HCL.out] at ho11
    obtain ⟨A11, c11, rfl, u1, u2, u3⟩ := ho11.open_n (no + (n + 3)) HRR.out
    have h11 := h10.below hb11
    have hA11 := hA10.below hb11 hA10.lt
    have hb11 := hb10.trans (hb11.mono hb10.size)
    have c11 := h11.c1
    clear h10 hA10 hR hb10 c10 ho11
    refine hK.out _ _ (c11) (fun hHeld => ?_)
    clear hK K
    refine wpAnyH_ready (rs := [9]) (by kernel_rfl) (by simp) ?_
    refine AllReadyH.cons rfl (fun K hK => ?_) AllReadyH.nil
    go_simp
    go_wp2_with (go_at_call 60; refine (keyed_any X.psk A11 (no + (n + 3)) _ (rowsS X bs) W11 _ u3 u1 u2 hz1 hz2).mono ?_; rintro e w' ⟨rfl, rfl⟩)
    refine hK.out _ _ (c11) (fun hHeld => ?_)
    clear hK K
    generalize keyedS X.psk (rowsS X bs) = K at *
    have c17 := h11.c17
    have f17 := h11.fz 17
    have h12 : Hl (W11.setCell ⟨p, 17, none⟩ (.int .u64 K)) base p (.slice Ao no co) vh { X with sh := K } := h11.set 17 (.int .u64 K) rfl rfl rfl
    have k12 : Kept (· = p) W11 (W11.setCell ⟨p, 17, none⟩ (.int .u64 K)) := (Kept.refl _ _).setAt _ _
    have hA12 := hA11.kept k12 (fun e => hpg e.symm)
    have c12 : (W11.setCell ⟨p, 17, none⟩ (.int .u64 K)).cell? ⟨p, 1, none⟩ = some (.int .u64 X.psk) := h12.c1
    refine tkq 10 (some 47) (v := ?_) rfl (Or.inl ⟨by rfl, ?_⟩) (by assumption) ?_
    rotate_left
    · intro w hSw; (try dsimp only at hSw); go_simp; first | done | (with_reducible rfl)
    simp only [Act.put, List.setIfInBounds_toArray, List.set_cons_zero, List.set_cons_succ]
    refine tkq 11 (some 48) (v := ?_) rfl (Or.inl ⟨by rfl, ?_⟩) (by assumption) ?_
    rotate_left
    · intro w hSw; (try dsimp only at hSw); go_simp; first | done | (with_reducible rfl)
    simp only [Act.put, List.setIfInBounds_toArray, List.set_cons_zero, List.set_cons_succ]
    refine wpAnyH_ready (rs := [12]) (by kernel_rfl) (by simp) ?_
    refine AllReadyH.cons rfl (fun K hK => ?_) AllReadyH.nil
    go_simp
    go_wp2_with fail
    refine hK.out _ _ (c12) (fun hHeld => ?_)
    clear hK K
    refine wpAnyH_done (by kernel_rfl) ?_ _
    have H12 := Lib.hid h12.at_
    clear c17 f17 c12 c11
    go_wp2_with (first | ((with_reducible refine at_ldp ?_); refine ld_pm g L (by rfl) hA12 HLl.out ?_) | ((with_reducible refine at_stp ?_); refine wpList_store_sub p 5 _ _ (hsL { X with sh := K, th := pd } (.slice Ao no co) vh) L (by rfl) (by rfl) H12.out (by rw [HLl.out]; show 5 + 12 ≤ 19; omega) (by rw [HLl.out]; exact pm_info) HLo.out (HSF.out K) ?_; intro W13 hA13 k13; have h13 : Hl W13 base p (.slice Ao no co) vh { X with sh := K, th := pd } := h12.turn hA13 k13 rfl rfl; have c3 : W13.cell? ⟨p, 3, none⟩ = some (.int .i64 X.st) := h13.c3; have f3 := h13.fz 3) | fail)
    go_ret
    have h14 : Hl (W13.setCell ⟨p, 3, none⟩ (.int .i64 1)) base p (.slice Ao no co) vh { X with sh := K, th := pd, st := 1 } := h13.set 3 (.int .i64 1) rfl rfl rfl
    have k14 : Kept (· = p) W13 (W13.setCell ⟨p, 3, none⟩ (.int .i64 1)) := (Kept.refl _ _).setAt _ _
    rw [HX.out, HE.out]
    exact h.post h14 ((Kept.of_below hb11 _).trans (((k12.trans k13).trans k14).mono (fun j hj => .inl (.inl hj)))) (fun j hj => .inl hj) _

end
end Go.Proofs.Ytdakbedohjemeaa
