/-
  PacketBack returns true at every input: its walk.
-/
import Derived.Test.YtijjiifekilapaaJp
import Derived.Test.YtijjiifekilapaaHback
import Derived.Test.YtijjiifekilapaaMq18
import Derived.Deep.CutRange
namespace Go.Proofs.Ytijjiifekilapaa
set_option linter.unusedVariables false
set_option linter.unusedSimpArgs false
open Go.RowKit Go.ChangeShapes Go.WideShapes Go.Deep
theorem HFits.belowB {B : Nat} {P : Nat → Prop} {w w' : World} {m : HN} {d : Sl} {tok : List Int} (h : HFits w P m d tok) (k : Below B w w') (hP : ∀ b, P b → b < B) : HFits w' P m d tok := h.kept (S := fun j => B ≤ j) (Kept.of_belowB k) (fun b hb hs => by have := hP b hb; have h2 : B ≤ b := hs; omega)
/-- What stays while two heads are made of what was drawn. -/
structure PbS (w : World) (gx gy gk : Nat) (X Y : List Value) (sk mk : Int) (A : Option Addr) (n : Nat) (bs : List Int) (W : World) : Prop where
  x : At W gx 39 X
  y : At W gy 39 Y
  k : At W gk 40 [.int .u64 sk, .int .u64 mk]
  p : Rd W w.heap.size A n bs
  b : Below w.heap.size w W
theorem PbS.belowB {w : World} {gx gy gk : Nat} {X Y : List Value} {sk mk : Int} {A : Option Addr} {n : Nat} {bs : List Int} {B : Nat} {W W' : World} (h : PbS w gx gy gk X Y sk mk A n bs W) (k : Below B W W') (hx : gx < B) (hy : gy < B) (hk : gk < B) (hB : w.heap.size ≤ B) : PbS w gx gy gk X Y sk mk A n bs W' :=
  ⟨h.x.below k hx, h.y.below k hy, h.k.below k hk, h.p.below (k.mono hB), h.b.trans (k.mono hB)⟩
theorem x6_info : (Try.prog.info? 39).map (·.size) = some 6 := by kernel_rfl
theorem Own.nn {w : World} {base : Nat} {e : TypeId} {v : Value} {bs : List Int} (h : Own w base e v bs) (hp : 0 < bs.length) : ∀ A n c, v = .slice A n c → A ≠ none := by
  rintro A n c rfl rfl
  obtain ⟨g, c, _, hv, _⟩ := h.place hp
  injection hv with hv; cases hv
theorem pack_len (sk mk n : Int) (m : HN) (tok pay : List Int) (h : mayB n m tok pay = true) : 1 ≤ (packS sk mk n m tok pay).length ∧ (packS sk mk n m tok pay).length ≤ 512 := by
  unfold mayB at h
  simp only [Bool.and_eq_true, decide_eq_true_eq] at h
  obtain ⟨⟨⟨hr, hn⟩, hw4⟩, hl⟩ := h
  obtain ⟨s0, s2, w0, w4, t32, t0, p0, f0⟩ := hright_parts _ _ hr
  unfold packS
  rw [turnB_len]
  unfold bareS
  rw [List.length_append, List.length_append, beS_len, sealS_len]
  omega
set_option maxRecDepth 100000 in
set_option maxHeartbeats 8000000 in
theorem pback9_walk (secret : Int) (S T F W' : Int) (tA : Option Addr) (tn tc : Nat) (bs0 : List Int) (ph : Bool) (S2 T2 F2 W2' : Int) (tA2 : Option Addr) (tn2 tc2 : Nat) (bs2 : List Int) (ph2 : Bool) (n : Int) (Ap : Option Addr) (np cp : Nat) (pay0 : List Int) (w : World)
    (s0 : 0 ≤ secret) (s1 : secret < 18446744073709551616) (hx : XIn w S T F W' tA tn tc bs0) (hy : XIn w S2 T2 F2 W2' tA2 tn2 tc2 bs2) (n0 : 0 ≤ n) (n1 : n < 18446744073709551616) (hip : InRow w Ap np cp pay0) :
    Calls Try.prog 4 #[.int .u64 secret, .agg (xL S T F W' ⟨tA, tn, tc⟩ ph).toArray, .agg (xL S2 T2 F2 W2' ⟨tA2, tn2, tc2⟩ ph2).toArray, .int .u64 n, .slice Ap np cp] w (FrPost (.bool true) w) := by
  obtain ⟨i0, hi, hz0, hz1, hz2⟩ := info_parts u8_info
  have HOF := Lib.hid (fun W => of_keys secret W s0 s1)
  have hsk := keyedS_bd secret [115, 101, 97, 108]
  have hmk := keyedS_bd secret [109, 97, 115, 107]
  unfold keysL at HOF
  obtain ⟨sk, hskE⟩ : ∃ x, keyedS secret [115, 101, 97, 108] = x := ⟨_, rfl⟩
  obtain ⟨mk, hmkE⟩ : ∃ x, keyedS secret [109, 97, 115, 107] = x := ⟨_, rfl⟩
  rw [hskE, hmkE] at HOF
  rw [hskE] at hsk
  rw [hmkE] at hmk
  have hcp := fun W => cut_any Ap np cp 100 W hip.2.1 hip.2.2.1 (by omega) (hip.cutk 100).2.2.2.2.2
  obtain ⟨hrp, hp1, _, hp2, hp3, _⟩ := hip.cutk 100
  obtain ⟨pay1, hpd⟩ : ∃ x, pay0.take (min np 100) = x := ⟨_, rfl⟩
  rw [hpd] at hrp
  obtain ⟨mp, hmp⟩ : ∃ x, min np 100 = x := ⟨_, rfl⟩
  rw [hmp] at hrp hcp hp1 hp2
  have HCP := Lib.hid hcp
  have HK1 := Lib.hid (fun W (h : InD W (fun b => b < w.heap.size) ⟨tA, tn, tc⟩ bs0) => khead_any (fun b => b < w.heap.size) S T F W' ⟨tA, tn, tc⟩ ph bs0 W h hx.sa hx.ta hx.fa hx.wa)
  have HK2 := Lib.hid (fun W (h : InD W (fun b => b < w.heap.size) ⟨tA2, tn2, tc2⟩ bs2) => khead_any (fun b => b < w.heap.size) S2 T2 F2 W2' ⟨tA2, tn2, tc2⟩ ph2 bs2 W h hy.sa hy.ta hy.fa hy.wa)
  have hI1 := Lib.hid hx.row.inDl
  have hI2 := Lib.hid hy.row.inDl
  clear hskE hmkE hpd hmp hcp hip hx hy
  obtain ⟨XL, hXL⟩ : ∃ l, xL S T F W' ⟨tA, tn, tc⟩ ph = l := ⟨_, rfl⟩
  obtain ⟨YL, hYL⟩ : ∃ l, xL S2 T2 F2 W2' ⟨tA2, tn2, tc2⟩ ph2 = l := ⟨_, rfl⟩
  have hXl : XL.length = 6 := by rw [← hXL]; rfl
  have hYl : YL.length = 6 := by rw [← hYL]; rfl
  rw [hXL] at HK1 ⊢
  rw [hYL] at HK2 ⊢
  have HXL := Lib.hid hXl
  have HYL := Lib.hid hYl
  clear hXL hYL hXl hYl
  have hX0 : At (w.alloc (.cells XL.toArray 39)) w.heap.size 39 XL := At.new w 39 XL
  have hb0 : Below w.heap.size w (w.alloc (.cells XL.toArray 39)) := (Below.refl _ _).alloc (Nat.le_refl _) _
  obtain ⟨w1, hw1⟩ : ∃ x, w.alloc (.cells XL.toArray 39) = x := ⟨_, rfl⟩
  rw [hw1] at hX0 hb0
  have hY0 : At (w1.alloc (.cells YL.toArray 39)) w1.heap.size 39 YL := At.new w1 39 YL
  have hX1 := hX0.alloc (.cells YL.toArray 39)
  have hb1 := hb0.alloc hb0.size (.cells YL.toArray 39)
  obtain ⟨w2, hw2⟩ : ∃ x, w1.alloc (.cells YL.toArray 39) = x := ⟨_, rfl⟩
  rw [hw2] at hY0 hX1 hb1
  have hlx := hX0.lt
  have hly := hY0.lt
  clear hX0 hb0
  go_enter Try.func4, Try.ntmps4
  go_wp2_with fail
  refine (HOF.out w2).mono ?_
  rintro e w3 ⟨rfl, hb3⟩
  have hX3 := hX1.below hb3 hX1.lt
  have hY3 := hY0.below hb3 hY0.lt
  have hb4 := hb1.trans (hb3.mono hb1.size)
  have hs3 := hb3.size
  have hK3 : At (w3.alloc (.cells #[.int .u64 sk, .int .u64 mk] 40)) w3.heap.size 40 [.int .u64 sk, .int .u64 mk] := At.new w3 40 [.int .u64 sk, .int .u64 mk]
  have hbq : Below w3.heap.size w3 (w3.alloc (.cells #[.int .u64 sk, .int .u64 mk] 40)) := (Below.refl _ _).alloc (Nat.le_refl _) _
  have hbz := hb4.trans (hbq.mono hb4.size)
  have hP3 : PbS w w.heap.size w1.heap.size w3.heap.size XL YL sk mk Ap mp pay1 (w3.alloc (.cells #[.int .u64 sk, .int .u64 mk] 40)) := ⟨hX3.below hbq (by omega), hY3.below hbq (by omega), hK3, hrp.below hbz, hbz⟩
  have hlk := hK3.lt
  have hlx_ : w.heap.size < (w3.alloc (.cells #[.int .u64 sk, .int .u64 mk] 40)).heap.size := hP3.x.lt
  have hly_ : w1.heap.size < (w3.alloc (.cells #[.int .u64 sk, .int .u64 mk] 40)).heap.size := hP3.y.lt
  have hwb := hbz.size
  obtain ⟨w4, hw4⟩ : ∃ x, w3.alloc (.cells #[.int .u64 sk, .int .u64 mk] 40) = x := ⟨_, rfl⟩
  rw [hw4] at hP3 hlk hwb hlx_ hly_
  clear hX1 hY0 hX3 hY3 hK3 hbq hb1 hb3 hb4 hw1 hw2 hrp
  go_upto_region 2 with fail
  go_cut [12, 13] from 26 to 29 (fun p q wx => ∃ (g12 g13 : Nat) (m1 : HN) (d1 : Sl) (tok1 : List Int) (m2 : HN) (d2 : Sl) (tok2 : List Int), p = .pointer (some ⟨g12, 0, none⟩) ∧ q = .pointer (some ⟨g13, 0, none⟩) ∧ Hid (PbS w w.heap.size w1.heap.size w3.heap.size XL YL sk mk Ap mp pay1 wx ∧ At wx g12 30 (hdL m1 d1) ∧ At wx g13 30 (hdL m2 d2) ∧ HFits wx (fun b => b < w.heap.size) m1 d1 tok1 ∧ HFits wx (fun b => b < w.heap.size) m2 d2 tok2 ∧ hrightB m1 tok1.length = true ∧ hrightB m2 tok2.length = true))
  case first =>
    go_wp2_with fail
    have hPS := hP3.belowB ((Below.refl w4.heap.size w4).drew) hlx_ hly_ hlk hwb
    have hc : Below w4.heap.size w4 w4.drew := (Below.refl _ _).drew
    obtain ⟨Y, hY⟩ : ∃ x, w4.drew = x := ⟨_, rfl⟩
    rw [hY] at hPS hc
    refine wp_region_held_drew (S := (fun W => W.rangeAt w.heap.size 0 XL ∧ W.rangeAt w1.heap.size 0 YL)) (by kernel_rfl) (by rw [hY]; exact ⟨hPS.x.rangeAt, hPS.y.rangeAt⟩) (fun hHeld => ?_)
    rw [hY] at hHeld ⊢
    clear hY
    refine tkq 0 (some 26) (v := ?_) rfl ?_ (by assumption) ?_
    rotate_left
    · refine yl_any 39 (.tmp 6) ?_ w.heap.size 0 ?_ XL _ ?_ Try.underlying39 rfl ?_ ?_
      · rfl
      · rfl
      · intro w hSw; exact hSw.1
      · rw [HXL.out]; exact x6_info
      · rfl
    simp only [Act.put, List.setIfInBounds_toArray, List.set_cons_zero, List.set_cons_succ]
    refine tkq 2 (some 28) (v := ?_) rfl ?_ (by assumption) ?_
    rotate_left
    · refine yl_any 39 (.tmp 7) ?_ w1.heap.size 0 ?_ YL _ ?_ Try.underlying39 rfl ?_ ?_
      · rfl
      · rfl
      · intro w hSw; exact hSw.2
      · rw [HYL.out]; exact x6_info
      · rfl
    simp only [Act.put, List.setIfInBounds_toArray, List.set_cons_zero, List.set_cons_succ]
    refine wpAnyH_ready (rs := [1, 4, 5]) (by kernel_rfl) (by simp) ?_
    refine AllReadyH.cons rfl (fun K hK => ?_) (AllReadyH.cons rfl (fun K hK => ?_) (AllReadyH.cons rfl (fun K hK => ?_) (AllReadyH.nil)))
    · go_simp
      go_wp2_with (go_at_call 12; refine (HK1.out _ (hI1.out.below_ hPS.b)).mono ?_; rintro e V1 ⟨m1, d1, tok1, rfl, hF1, hr1, hbA⟩)
      have hst : Below w4.heap.size Y V1 := hbA.mono hc.size
      have hPS := hPS.belowB hst hlx_ hly_ hlk hwb
      have hc := hc.trans hst
      clear hbA hst
      refine hK.out _ _ (⟨hPS.x.rangeAt, hPS.y.rangeAt⟩) (fun hHeld => ?_)
      clear hK K
      refine wpAnyH_ready (rs := [3, 4, 5]) (by kernel_rfl) (by simp) ?_
      refine AllReadyH.cons rfl (fun K hK => ?_) (AllReadyH.cons rfl (fun K hK => ?_) (AllReadyH.cons rfl (fun K hK => ?_) (AllReadyH.nil)))
      · go_simp
        go_wp2_with (go_at_call 12; refine (HK2.out _ (hI2.out.below_ hPS.b)).mono ?_; rintro e V2 ⟨m2, d2, tok2, rfl, hF2, hr2, hbA⟩)
        have hst : Below w4.heap.size V1 V2 := hbA.mono hc.size
        have hPS := hPS.belowB hst hlx_ hly_ hlk hwb
        have hc := hc.trans hst
        have hF1 := hF1.belowB hst (fun b hb => by have h9 : b < w.heap.size := hb; omega)
        clear hbA hst
        refine hK.out _ _ (⟨hPS.x.rangeAt, hPS.y.rangeAt⟩) (fun hHeld => ?_)
        clear hK K
        refine wpAnyH_ready (rs := [4, 5]) (by kernel_rfl) (by simp) ?_
        refine AllReadyH.cons rfl (fun K hK => ?_) (AllReadyH.cons rfl (fun K hK => ?_) (AllReadyH.nil))
        · go_simp
          go_wp2_with (fail)
          have hst : Below w4.heap.size V2 (V2.alloc (.cells #[.int .i64 0, .int .u8 0, .int .u8 0, .int .u8 0, .int .u8 0, .int .u8 0, .int .u8 0, .int .u8 0, .int .u8 0, .int .u8 0, .int .u8 0, .int .u8 0, .int .u8 0, .int .u8 0, .int .u8 0, .int .u8 0, .int .u8 0, .slice none 0 0, .int .i64 0, .bool false] 30)) := (Below.refl _ _).alloc hc.size _
          have hge_g12 : w4.heap.size ≤ V2.heap.size := hc.size
          have hPS := hPS.belowB hst hlx_ hly_ hlk hwb
          have hc := hc.trans hst
          have hF1 := hF1.belowB hst (fun b hb => by have h9 : b < w.heap.size := hb; omega)
          have hF2 := hF2.belowB hst (fun b hb => by have h9 : b < w.heap.size := hb; omega)
          have hA12 : At (V2.alloc (.cells #[.int .i64 0, .int .u8 0, .int .u8 0, .int .u8 0, .int .u8 0, .int .u8 0, .int .u8 0, .int .u8 0, .int .u8 0, .int .u8 0, .int .u8 0, .int .u8 0, .int .u8 0, .int .u8 0, .int .u8 0, .int .u8 0, .int .u8 0, .slice none 0 0, .int .i64 0, .bool false] 30)) V2.heap.size 30 (hdL .zero .nil) := At.new V2 30 (hdL .zero .nil)
          obtain ⟨g12, hE_g12⟩ : ∃ g, V2.heap.size = g := ⟨_, rfl⟩
          rw [hE_g12] at hA12 hge_g12 ⊢
          obtain ⟨V3, hE_V3⟩ : ∃ x, V2.alloc (.cells #[.int .i64 0, .int .u8 0, .int .u8 0, .int .u8 0, .int .u8 0, .int .u8 0, .int .u8 0, .int .u8 0, .int .u8 0, .int .u8 0, .int .u8 0, .int .u8 0, .int .u8 0, .int .u8 0, .int .u8 0, .int .u8 0, .int .u8 0, .slice none 0 0, .int .i64 0, .bool false] 30) = x := ⟨_, rfl⟩
          rw [hE_V3] at hPS hc hA12 hF1 hF2 ⊢
          clear hE_g12 hE_V3 hst
          refine hK.out _ _ (⟨hPS.x.rangeAt, hPS.y.rangeAt⟩) (fun hHeld => ?_)
          clear hK K
          refine wpAnyH_ready (rs := [5]) (by kernel_rfl) (by simp) ?_
          refine AllReadyH.cons rfl (fun K hK => ?_) AllReadyH.nil
          go_simp
          go_wp2_with (fail)
          have hst : Below w4.heap.size V3 (V3.alloc (.cells #[.int .i64 0, .int .u8 0, .int .u8 0, .int .u8 0, .int .u8 0, .int .u8 0, .int .u8 0, .int .u8 0, .int .u8 0, .int .u8 0, .int .u8 0, .int .u8 0, .int .u8 0, .int .u8 0, .int .u8 0, .int .u8 0, .int .u8 0, .slice none 0 0, .int .i64 0, .bool false] 30)) := (Below.refl _ _).alloc hc.size _
          have hge_g13 : w4.heap.size ≤ V3.heap.size := hc.size
          have hne_g13 := hA12.lt
          have hPS := hPS.belowB hst hlx_ hly_ hlk hwb
          have hc := hc.trans hst
          have hF1 := hF1.belowB hst (fun b hb => by have h9 : b < w.heap.size := hb; omega)
          have hF2 := hF2.belowB hst (fun b hb => by have h9 : b < w.heap.size := hb; omega)
          have hA12 := hA12.alloc (.cells #[.int .i64 0, .int .u8 0, .int .u8 0, .int .u8 0, .int .u8 0, .int .u8 0, .int .u8 0, .int .u8 0, .int .u8 0, .int .u8 0, .int .u8 0, .int .u8 0, .int .u8 0, .int .u8 0, .int .u8 0, .int .u8 0, .int .u8 0, .slice none 0 0, .int .i64 0, .bool false] 30)
          have hA13 : At (V3.alloc (.cells #[.int .i64 0, .int .u8 0, .int .u8 0, .int .u8 0, .int .u8 0, .int .u8 0, .int .u8 0, .int .u8 0, .int .u8 0, .int .u8 0, .int .u8 0, .int .u8 0, .int .u8 0, .int .u8 0, .int .u8 0, .int .u8 0, .int .u8 0, .slice none 0 0, .int .i64 0, .bool false] 30)) V3.heap.size 30 (hdL .zero .nil) := At.new V3 30 (hdL .zero .nil)
          obtain ⟨g13, hE_g13⟩ : ∃ g, V3.heap.size = g := ⟨_, rfl⟩
          rw [hE_g13] at hA13 hge_g13 hne_g13 ⊢
          obtain ⟨V4, hE_V4⟩ : ∃ x, V3.alloc (.cells #[.int .i64 0, .int .u8 0, .int .u8 0, .int .u8 0, .int .u8 0, .int .u8 0, .int .u8 0, .int .u8 0, .int .u8 0, .int .u8 0, .int .u8 0, .int .u8 0, .int .u8 0, .int .u8 0, .int .u8 0, .int .u8 0, .int .u8 0, .slice none 0 0, .int .i64 0, .bool false] 30) = x := ⟨_, rfl⟩
          rw [hE_V4] at hPS hc hA13 hF1 hF2 hA12 ⊢
          clear hE_g13 hE_V4 hst
          refine hK.out _ _ (⟨hPS.x.rangeAt, hPS.y.rangeAt⟩) (fun hHeld => ?_)
          clear hK K
          refine wpAnyH_ready (rs := [6]) (by kernel_rfl) (by simp) ?_
          refine AllReadyH.cons rfl (fun K hK => ?_) AllReadyH.nil
          refine step_st_any (by rfl) g12 30 (hdL .zero .nil) (hdL m1 d1) (by rfl) (by rfl) hA12 rfl hd_info (by rfl) ?_
          intro V5 hAn hkn
          have hst : Below w4.heap.size V4 V5 := hkn.below (Below.refl w4.heap.size V4) hc.size (by intro j hj; subst hj; exact hge_g12)
          have hPS := hPS.belowB hst hlx_ hly_ hlk hwb
          have hc := hc.trans hst
          have hF1 := hF1.belowB hst (fun b hb => by have h9 : b < w.heap.size := hb; omega)
          have hF2 := hF2.belowB hst (fun b hb => by have h9 : b < w.heap.size := hb; omega)
          have hA13 := hA13.kept hkn (by omega)
          have hA12 := hAn
          clear hAn hkn hst
          refine hK.out _ _ (⟨hPS.x.rangeAt, hPS.y.rangeAt⟩) (fun hHeld => ?_)
          clear hK K
          refine wpAnyH_ready (rs := [7]) (by kernel_rfl) (by simp) ?_
          refine AllReadyH.cons rfl (fun K hK => ?_) AllReadyH.nil
          refine step_st_any (by rfl) g13 30 (hdL .zero .nil) (hdL m2 d2) (by rfl) (by rfl) hA13 rfl hd_info (by rfl) ?_
          intro V6 hAn hkn
          have hst : Below w4.heap.size V5 V6 := hkn.below (Below.refl w4.heap.size V5) hc.size (by intro j hj; subst hj; exact hge_g13)
          have hPS := hPS.belowB hst hlx_ hly_ hlk hwb
          have hc := hc.trans hst
          have hF1 := hF1.belowB hst (fun b hb => by have h9 : b < w.heap.size := hb; omega)
          have hF2 := hF2.belowB hst (fun b hb => by have h9 : b < w.heap.size := hb; omega)
          have hA12 := hA12.kept hkn (by omega)
          have hA13 := hAn
          clear hAn hkn hst
          refine hK.out _ _ (⟨hPS.x.rangeAt, hPS.y.rangeAt⟩) (fun hHeld => ?_)
          clear hK K
          refine wpAnyH_done (by kernel_rfl) ?_ _
          go_wp2_with fail
          go_meet
          exact ⟨g12, g13, m1, d1, tok1, m2, d2, tok2, rfl, rfl, Lib.hid ⟨hPS, hA12, hA13, hF1, hF2, hr1, hr2⟩⟩
        · go_simp
          go_wp2_with (fail)
          have hst : Below w4.heap.size V2 (V2.alloc (.cells #[.int .i64 0, .int .u8 0, .int .u8 0, .int .u8 0, .int .u8 0, .int .u8 0, .int .u8 0, .int .u8 0, .int .u8 0, .int .u8 0, .int .u8 0, .int .u8 0, .int .u8 0, .int .u8 0, .int .u8 0, .int .u8 0, .int .u8 0, .slice none 0 0, .int .i64 0, .bool false] 30)) := (Below.refl _ _).alloc hc.size _
          have hge_g13 : w4.heap.size ≤ V2.heap.size := hc.size
          have hPS := hPS.belowB hst hlx_ hly_ hlk hwb
          have hc := hc.trans hst
          have hF1 := hF1.belowB hst (fun b hb => by have h9 : b < w.heap.size := hb; omega)
          have hF2 := hF2.belowB hst (fun b hb => by have h9 : b < w.heap.size := hb; omega)
          have hA13 : At (V2.alloc (.cells #[.int .i64 0, .int .u8 0, .int .u8 0, .int .u8 0, .int .u8 0, .int .u8 0, .int .u8 0, .int .u8 0, .int .u8 0, .int .u8 0, .int .u8 0, .int .u8 0, .int .u8 0, .int .u8 0, .int .u8 0, .int .u8 0, .int .u8 0, .slice none 0 0, .int .i64 0, .bool false] 30)) V2.heap.size 30 (hdL .zero .nil) := At.new V2 30 (hdL .zero .nil)
          obtain ⟨g13, hE_g13⟩ : ∃ g, V2.heap.size = g := ⟨_, rfl⟩
          rw [hE_g13] at hA13 hge_g13 ⊢
          obtain ⟨V7, hE_V7⟩ : ∃ x, V2.alloc (.cells #[.int .i64 0, .int .u8 0, .int .u8 0, .int .u8 0, .int .u8 0, .int .u8 0, .int .u8 0, .int .u8 0, .int .u8 0, .int .u8 0, .int .u8 0, .int .u8 0, .int .u8 0, .int .u8 0, .int .u8 0, .int .u8 0, .int .u8 0, .slice none 0 0, .int .i64 0, .bool false] 30) = x := ⟨_, rfl⟩
          rw [hE_V7] at hPS hc hA13 hF1 hF2 ⊢
          clear hE_g13 hE_V7 hst
          refine hK.out _ _ (⟨hPS.x.rangeAt, hPS.y.rangeAt⟩) (fun hHeld => ?_)
          clear hK K
          refine wpAnyH_ready (rs := [4]) (by kernel_rfl) (by simp) ?_
          refine AllReadyH.cons rfl (fun K hK => ?_) AllReadyH.nil
          go_simp
          go_wp2_with (fail)
          have hst : Below w4.heap.size V7 (V7.alloc (.cells #[.int .i64 0, .int .u8 0, .int .u8 0, .int .u8 0, .int .u8 0, .int .u8 0, .int .u8 0, .int .u8 0, .int .u8 0, .int .u8 0, .int .u8 0, .int .u8 0, .int .u8 0, .int .u8 0, .int .u8 0, .int .u8 0, .int .u8 0, .slice none 0 0, .int .i64 0, .bool false] 30)) := (Below.refl _ _).alloc hc.size _
          have hge_g12 : w4.heap.size ≤ V7.heap.size := hc.size
          have hne_g12 := hA13.lt
          have hPS := hPS.belowB hst hlx_ hly_ hlk hwb
          have hc := hc.trans hst
          have hF1 := hF1.belowB hst (fun b hb => by have h9 : b < w.heap.size := hb; omega)
          have hF2 := hF2.belowB hst (fun b hb => by have h9 : b < w.heap.size := hb; omega)
          have hA13 := hA13.alloc (.cells #[.int .i64 0, .int .u8 0, .int .u8 0, .int .u8 0, .int .u8 0, .int .u8 0, .int .u8 0, .int .u8 0, .int .u8 0, .int .u8 0, .int .u8 0, .int .u8 0, .int .u8 0, .int .u8 0, .int .u8 0, .int .u8 0, .int .u8 0, .slice none 0 0, .int .i64 0, .bool false] 30)
          have hA12 : At (V7.alloc (.cells #[.int .i64 0, .int .u8 0, .int .u8 0, .int .u8 0, .int .u8 0, .int .u8 0, .int .u8 0, .int .u8 0, .int .u8 0, .int .u8 0, .int .u8 0, .int .u8 0, .int .u8 0, .int .u8 0, .int .u8 0, .int .u8 0, .int .u8 0, .slice none 0 0, .int .i64 0, .bool false] 30)) V7.heap.size 30 (hdL .zero .nil) := At.new V7 30 (hdL .zero .nil)
          obtain ⟨g12, hE_g12⟩ : ∃ g, V7.heap.size = g := ⟨_, rfl⟩
          rw [hE_g12] at hA12 hge_g12 hne_g12 ⊢
          obtain ⟨V8, hE_V8⟩ : ∃ x, V7.alloc (.cells #[.int .i64 0, .int .u8 0, .int .u8 0, .int .u8 0, .int .u8 0, .int .u8 0, .int .u8 0, .int .u8 0, .int .u8 0, .int .u8 0, .int .u8 0, .int .u8 0, .int .u8 0, .int .u8 0, .int .u8 0, .int .u8 0, .int .u8 0, .slice none 0 0, .int .i64 0, .bool false] 30) = x := ⟨_, rfl⟩
          rw [hE_V8] at hPS hc hA12 hF1 hF2 hA13 ⊢
          clear hE_g12 hE_V8 hst
          refine hK.out _ _ (⟨hPS.x.rangeAt, hPS.y.rangeAt⟩) (fun hHeld => ?_)
          clear hK K
          refine wpAnyH_ready (rs := [6]) (by kernel_rfl) (by simp) ?_
          refine AllReadyH.cons rfl (fun K hK => ?_) AllReadyH.nil
          refine step_st_any (by rfl) g12 30 (hdL .zero .nil) (hdL m1 d1) (by rfl) (by rfl) hA12 rfl hd_info (by rfl) ?_
          intro V9 hAn hkn
          have hst : Below w4.heap.size V8 V9 := hkn.below (Below.refl w4.heap.size V8) hc.size (by intro j hj; subst hj; exact hge_g12)
          have hPS := hPS.belowB hst hlx_ hly_ hlk hwb
          have hc := hc.trans hst
          have hF1 := hF1.belowB hst (fun b hb => by have h9 : b < w.heap.size := hb; omega)
          have hF2 := hF2.belowB hst (fun b hb => by have h9 : b < w.heap.size := hb; omega)
          have hA13 := hA13.kept hkn (by omega)
          have hA12 := hAn
          clear hAn hkn hst
          refine hK.out _ _ (⟨hPS.x.rangeAt, hPS.y.rangeAt⟩) (fun hHeld => ?_)
          clear hK K
          refine wpAnyH_ready (rs := [7]) (by kernel_rfl) (by simp) ?_
          refine AllReadyH.cons rfl (fun K hK => ?_) AllReadyH.nil
          refine step_st_any (by rfl) g13 30 (hdL .zero .nil) (hdL m2 d2) (by rfl) (by rfl) hA13 rfl hd_info (by rfl) ?_
          intro V10 hAn hkn
          have hst : Below w4.heap.size V9 V10 := hkn.below (Below.refl w4.heap.size V9) hc.size (by intro j hj; subst hj; exact hge_g13)
          have hPS := hPS.belowB hst hlx_ hly_ hlk hwb
          have hc := hc.trans hst
          have hF1 := hF1.belowB hst (fun b hb => by have h9 : b < w.heap.size := hb; omega)
          have hF2 := hF2.belowB hst (fun b hb => by have h9 : b < w.heap.size := hb; omega)
          have hA12 := hA12.kept hkn (by omega)
          have hA13 := hAn
          clear hAn hkn hst
          refine hK.out _ _ (⟨hPS.x.rangeAt, hPS.y.rangeAt⟩) (fun hHeld => ?_)
          clear hK K
          refine wpAnyH_done (by kernel_rfl) ?_ _
          go_wp2_with fail
          go_meet
          exact ⟨g12, g13, m1, d1, tok1, m2, d2, tok2, rfl, rfl, Lib.hid ⟨hPS, hA12, hA13, hF1, hF2, hr1, hr2⟩⟩
      · go_simp
        go_wp2_with (fail)
        have hst : Below w4.heap.size V1 (V1.alloc (.cells #[.int .i64 0, .int .u8 0, .int .u8 0, .int .u8 0, .int .u8 0, .int .u8 0, .int .u8 0, .int .u8 0, .int .u8 0, .int .u8 0, .int .u8 0, .int .u8 0, .int .u8 0, .int .u8 0, .int .u8 0, .int .u8 0, .int .u8 0, .slice none 0 0, .int .i64 0, .bool false] 30)) := (Below.refl _ _).alloc hc.size _
        have hge_g12 : w4.heap.size ≤ V1.heap.size := hc.size
        have hPS := hPS.belowB hst hlx_ hly_ hlk hwb
        have hc := hc.trans hst
        have hF1 := hF1.belowB hst (fun b hb => by have h9 : b < w.heap.size := hb; omega)
        have hA12 : At (V1.alloc (.cells #[.int .i64 0, .int .u8 0, .int .u8 0, .int .u8 0, .int .u8 0, .int .u8 0, .int .u8 0, .int .u8 0, .int .u8 0, .int .u8 0, .int .u8 0, .int .u8 0, .int .u8 0, .int .u8 0, .int .u8 0, .int .u8 0, .int .u8 0, .slice none 0 0, .int .i64 0, .bool false] 30)) V1.heap.size 30 (hdL .zero .nil) := At.new V1 30 (hdL .zero .nil)
        obtain ⟨g12, hE_g12⟩ : ∃ g, V1.heap.size = g := ⟨_, rfl⟩
        rw [hE_g12] at hA12 hge_g12 ⊢
        obtain ⟨V11, hE_V11⟩ : ∃ x, V1.alloc (.cells #[.int .i64 0, .int .u8 0, .int .u8 0, .int .u8 0, .int .u8 0, .int .u8 0, .int .u8 0, .int .u8 0, .int .u8 0, .int .u8 0, .int .u8 0, .int .u8 0, .int .u8 0, .int .u8 0, .int .u8 0, .int .u8 0, .int .u8 0, .slice none 0 0, .int .i64 0, .bool false] 30) = x := ⟨_, rfl⟩
        rw [hE_V11] at hPS hc hA12 hF1 ⊢
        clear hE_g12 hE_V11 hst
        refine hK.out _ _ (⟨hPS.x.rangeAt, hPS.y.rangeAt⟩) (fun hHeld => ?_)
        clear hK K
        refine wpAnyH_ready (rs := [3, 5]) (by kernel_rfl) (by simp) ?_
        refine AllReadyH.cons rfl (fun K hK => ?_) (AllReadyH.cons rfl (fun K hK => ?_) (AllReadyH.nil))
        · go_simp
          go_wp2_with (go_at_call 12; refine (HK2.out _ (hI2.out.below_ hPS.b)).mono ?_; rintro e V12 ⟨m2, d2, tok2, rfl, hF2, hr2, hbA⟩)
          have hst : Below w4.heap.size V11 V12 := hbA.mono hc.size
          have hPS := hPS.belowB hst hlx_ hly_ hlk hwb
          have hc := hc.trans hst
          have hF1 := hF1.belowB hst (fun b hb => by have h9 : b < w.heap.size := hb; omega)
          have hA12 := hA12.below hbA hA12.lt
          clear hbA hst
          refine hK.out _ _ (⟨hPS.x.rangeAt, hPS.y.rangeAt⟩) (fun hHeld => ?_)
          clear hK K
          refine wpAnyH_ready (rs := [5]) (by kernel_rfl) (by simp) ?_
          refine AllReadyH.cons rfl (fun K hK => ?_) AllReadyH.nil
          go_simp
          go_wp2_with (fail)
          have hst : Below w4.heap.size V12 (V12.alloc (.cells #[.int .i64 0, .int .u8 0, .int .u8 0, .int .u8 0, .int .u8 0, .int .u8 0, .int .u8 0, .int .u8 0, .int .u8 0, .int .u8 0, .int .u8 0, .int .u8 0, .int .u8 0, .int .u8 0, .int .u8 0, .int .u8 0, .int .u8 0, .slice none 0 0, .int .i64 0, .bool false] 30)) := (Below.refl _ _).alloc hc.size _
          have hge_g13 : w4.heap.size ≤ V12.heap.size := hc.size
          have hne_g13 := hA12.lt
          have hPS := hPS.belowB hst hlx_ hly_ hlk hwb
          have hc := hc.trans hst
          have hF1 := hF1.belowB hst (fun b hb => by have h9 : b < w.heap.size := hb; omega)
          have hF2 := hF2.belowB hst (fun b hb => by have h9 : b < w.heap.size := hb; omega)
          have hA12 := hA12.alloc (.cells #[.int .i64 0, .int .u8 0, .int .u8 0, .int .u8 0, .int .u8 0, .int .u8 0, .int .u8 0, .int .u8 0, .int .u8 0, .int .u8 0, .int .u8 0, .int .u8 0, .int .u8 0, .int .u8 0, .int .u8 0, .int .u8 0, .int .u8 0, .slice none 0 0, .int .i64 0, .bool false] 30)
          have hA13 : At (V12.alloc (.cells #[.int .i64 0, .int .u8 0, .int .u8 0, .int .u8 0, .int .u8 0, .int .u8 0, .int .u8 0, .int .u8 0, .int .u8 0, .int .u8 0, .int .u8 0, .int .u8 0, .int .u8 0, .int .u8 0, .int .u8 0, .int .u8 0, .int .u8 0, .slice none 0 0, .int .i64 0, .bool false] 30)) V12.heap.size 30 (hdL .zero .nil) := At.new V12 30 (hdL .zero .nil)
          obtain ⟨g13, hE_g13⟩ : ∃ g, V12.heap.size = g := ⟨_, rfl⟩
          rw [hE_g13] at hA13 hge_g13 hne_g13 ⊢
          obtain ⟨V13, hE_V13⟩ : ∃ x, V12.alloc (.cells #[.int .i64 0, .int .u8 0, .int .u8 0, .int .u8 0, .int .u8 0, .int .u8 0, .int .u8 0, .int .u8 0, .int .u8 0, .int .u8 0, .int .u8 0, .int .u8 0, .int .u8 0, .int .u8 0, .int .u8 0, .int .u8 0, .int .u8 0, .slice none 0 0, .int .i64 0, .bool false] 30) = x := ⟨_, rfl⟩
          rw [hE_V13] at hPS hc hA13 hF1 hF2 hA12 ⊢
          clear hE_g13 hE_V13 hst
          refine hK.out _ _ (⟨hPS.x.rangeAt, hPS.y.rangeAt⟩) (fun hHeld => ?_)
          clear hK K
          refine wpAnyH_ready (rs := [6]) (by kernel_rfl) (by simp) ?_
          refine AllReadyH.cons rfl (fun K hK => ?_) AllReadyH.nil
          refine step_st_any (by rfl) g12 30 (hdL .zero .nil) (hdL m1 d1) (by rfl) (by rfl) hA12 rfl hd_info (by rfl) ?_
          intro V14 hAn hkn
          have hst : Below w4.heap.size V13 V14 := hkn.below (Below.refl w4.heap.size V13) hc.size (by intro j hj; subst hj; exact hge_g12)
          have hPS := hPS.belowB hst hlx_ hly_ hlk hwb
          have hc := hc.trans hst
          have hF1 := hF1.belowB hst (fun b hb => by have h9 : b < w.heap.size := hb; omega)
          have hF2 := hF2.belowB hst (fun b hb => by have h9 : b < w.heap.size := hb; omega)
          have hA13 := hA13.kept hkn (by omega)
          have hA12 := hAn
          clear hAn hkn hst
          refine hK.out _ _ (⟨hPS.x.rangeAt, hPS.y.rangeAt⟩) (fun hHeld => ?_)
          clear hK K
          refine wpAnyH_ready (rs := [7]) (by kernel_rfl) (by simp) ?_
          refine AllReadyH.cons rfl (fun K hK => ?_) AllReadyH.nil
          refine step_st_any (by rfl) g13 30 (hdL .zero .nil) (hdL m2 d2) (by rfl) (by rfl) hA13 rfl hd_info (by rfl) ?_
          intro V15 hAn hkn
          have hst : Below w4.heap.size V14 V15 := hkn.below (Below.refl w4.heap.size V14) hc.size (by intro j hj; subst hj; exact hge_g13)
          have hPS := hPS.belowB hst hlx_ hly_ hlk hwb
          have hc := hc.trans hst
          have hF1 := hF1.belowB hst (fun b hb => by have h9 : b < w.heap.size := hb; omega)
          have hF2 := hF2.belowB hst (fun b hb => by have h9 : b < w.heap.size := hb; omega)
          have hA12 := hA12.kept hkn (by omega)
          have hA13 := hAn
          clear hAn hkn hst
          refine hK.out _ _ (⟨hPS.x.rangeAt, hPS.y.rangeAt⟩) (fun hHeld => ?_)
          clear hK K
          refine wpAnyH_done (by kernel_rfl) ?_ _
          go_wp2_with fail
          go_meet
          exact ⟨g12, g13, m1, d1, tok1, m2, d2, tok2, rfl, rfl, Lib.hid ⟨hPS, hA12, hA13, hF1, hF2, hr1, hr2⟩⟩
        · go_simp
          go_wp2_with (fail)
          have hst : Below w4.heap.size V11 (V11.alloc (.cells #[.int .i64 0, .int .u8 0, .int .u8 0, .int .u8 0, .int .u8 0, .int .u8 0, .int .u8 0, .int .u8 0, .int .u8 0, .int .u8 0, .int .u8 0, .int .u8 0, .int .u8 0, .int .u8 0, .int .u8 0, .int .u8 0, .int .u8 0, .slice none 0 0, .int .i64 0, .bool false] 30)) := (Below.refl _ _).alloc hc.size _
          have hge_g13 : w4.heap.size ≤ V11.heap.size := hc.size
          have hne_g13 := hA12.lt
          have hPS := hPS.belowB hst hlx_ hly_ hlk hwb
          have hc := hc.trans hst
          have hF1 := hF1.belowB hst (fun b hb => by have h9 : b < w.heap.size := hb; omega)
          have hA12 := hA12.alloc (.cells #[.int .i64 0, .int .u8 0, .int .u8 0, .int .u8 0, .int .u8 0, .int .u8 0, .int .u8 0, .int .u8 0, .int .u8 0, .int .u8 0, .int .u8 0, .int .u8 0, .int .u8 0, .int .u8 0, .int .u8 0, .int .u8 0, .int .u8 0, .slice none 0 0, .int .i64 0, .bool false] 30)
          have hA13 : At (V11.alloc (.cells #[.int .i64 0, .int .u8 0, .int .u8 0, .int .u8 0, .int .u8 0, .int .u8 0, .int .u8 0, .int .u8 0, .int .u8 0, .int .u8 0, .int .u8 0, .int .u8 0, .int .u8 0, .int .u8 0, .int .u8 0, .int .u8 0, .int .u8 0, .slice none 0 0, .int .i64 0, .bool false] 30)) V11.heap.size 30 (hdL .zero .nil) := At.new V11 30 (hdL .zero .nil)
          obtain ⟨g13, hE_g13⟩ : ∃ g, V11.heap.size = g := ⟨_, rfl⟩
          rw [hE_g13] at hA13 hge_g13 hne_g13 ⊢
          obtain ⟨V16, hE_V16⟩ : ∃ x, V11.alloc (.cells #[.int .i64 0, .int .u8 0, .int .u8 0, .int .u8 0, .int .u8 0, .int .u8 0, .int .u8 0, .int .u8 0, .int .u8 0, .int .u8 0, .int .u8 0, .int .u8 0, .int .u8 0, .int .u8 0, .int .u8 0, .int .u8 0, .int .u8 0, .slice none 0 0, .int .i64 0, .bool false] 30) = x := ⟨_, rfl⟩
          rw [hE_V16] at hPS hc hA13 hF1 hA12 ⊢
          clear hE_g13 hE_V16 hst
          refine hK.out _ _ (⟨hPS.x.rangeAt, hPS.y.rangeAt⟩) (fun hHeld => ?_)
          clear hK K
          refine wpAnyH_ready (rs := [3]) (by kernel_rfl) (by simp) ?_
          refine AllReadyH.cons rfl (fun K hK => ?_) AllReadyH.nil
          go_simp
          go_wp2_with (go_at_call 12; refine (HK2.out _ (hI2.out.below_ hPS.b)).mono ?_; rintro e V17 ⟨m2, d2, tok2, rfl, hF2, hr2, hbA⟩)
          have hst : Below w4.heap.size V16 V17 := hbA.mono hc.size
          have hPS := hPS.belowB hst hlx_ hly_ hlk hwb
          have hc := hc.trans hst
          have hF1 := hF1.belowB hst (fun b hb => by have h9 : b < w.heap.size := hb; omega)
          have hA12 := hA12.below hbA hA12.lt
          have hA13 := hA13.below hbA hA13.lt
          clear hbA hst
          refine hK.out _ _ (⟨hPS.x.rangeAt, hPS.y.rangeAt⟩) (fun hHeld => ?_)
          clear hK K
          refine wpAnyH_ready (rs := [6]) (by kernel_rfl) (by simp) ?_
          refine AllReadyH.cons rfl (fun K hK => ?_) AllReadyH.nil
          refine step_st_any (by rfl) g12 30 (hdL .zero .nil) (hdL m1 d1) (by rfl) (by rfl) hA12 rfl hd_info (by rfl) ?_
          intro V18 hAn hkn
          have hst : Below w4.heap.size V17 V18 := hkn.below (Below.refl w4.heap.size V17) hc.size (by intro j hj; subst hj; exact hge_g12)
          have hPS := hPS.belowB hst hlx_ hly_ hlk hwb
          have hc := hc.trans hst
          have hF1 := hF1.belowB hst (fun b hb => by have h9 : b < w.heap.size := hb; omega)
          have hF2 := hF2.belowB hst (fun b hb => by have h9 : b < w.heap.size := hb; omega)
          have hA13 := hA13.kept hkn (by omega)
          have hA12 := hAn
          clear hAn hkn hst
          refine hK.out _ _ (⟨hPS.x.rangeAt, hPS.y.rangeAt⟩) (fun hHeld => ?_)
          clear hK K
          refine wpAnyH_ready (rs := [7]) (by kernel_rfl) (by simp) ?_
          refine AllReadyH.cons rfl (fun K hK => ?_) AllReadyH.nil
          refine step_st_any (by rfl) g13 30 (hdL .zero .nil) (hdL m2 d2) (by rfl) (by rfl) hA13 rfl hd_info (by rfl) ?_
          intro V19 hAn hkn
          have hst : Below w4.heap.size V18 V19 := hkn.below (Below.refl w4.heap.size V18) hc.size (by intro j hj; subst hj; exact hge_g13)
          have hPS := hPS.belowB hst hlx_ hly_ hlk hwb
          have hc := hc.trans hst
          have hF1 := hF1.belowB hst (fun b hb => by have h9 : b < w.heap.size := hb; omega)
          have hF2 := hF2.belowB hst (fun b hb => by have h9 : b < w.heap.size := hb; omega)
          have hA12 := hA12.kept hkn (by omega)
          have hA13 := hAn
          clear hAn hkn hst
          refine hK.out _ _ (⟨hPS.x.rangeAt, hPS.y.rangeAt⟩) (fun hHeld => ?_)
          clear hK K
          refine wpAnyH_done (by kernel_rfl) ?_ _
          go_wp2_with fail
          go_meet
          exact ⟨g12, g13, m1, d1, tok1, m2, d2, tok2, rfl, rfl, Lib.hid ⟨hPS, hA12, hA13, hF1, hF2, hr1, hr2⟩⟩
      · go_simp
        go_wp2_with (fail)
        have hst : Below w4.heap.size V1 (V1.alloc (.cells #[.int .i64 0, .int .u8 0, .int .u8 0, .int .u8 0, .int .u8 0, .int .u8 0, .int .u8 0, .int .u8 0, .int .u8 0, .int .u8 0, .int .u8 0, .int .u8 0, .int .u8 0, .int .u8 0, .int .u8 0, .int .u8 0, .int .u8 0, .slice none 0 0, .int .i64 0, .bool false] 30)) := (Below.refl _ _).alloc hc.size _
        have hge_g13 : w4.heap.size ≤ V1.heap.size := hc.size
        have hPS := hPS.belowB hst hlx_ hly_ hlk hwb
        have hc := hc.trans hst
        have hF1 := hF1.belowB hst (fun b hb => by have h9 : b < w.heap.size := hb; omega)
        have hA13 : At (V1.alloc (.cells #[.int .i64 0, .int .u8 0, .int .u8 0, .int .u8 0, .int .u8 0, .int .u8 0, .int .u8 0, .int .u8 0, .int .u8 0, .int .u8 0, .int .u8 0, .int .u8 0, .int .u8 0, .int .u8 0, .int .u8 0, .int .u8 0, .int .u8 0, .slice none 0 0, .int .i64 0, .bool false] 30)) V1.heap.size 30 (hdL .zero .nil) := At.new V1 30 (hdL .zero .nil)
        obtain ⟨g13, hE_g13⟩ : ∃ g, V1.heap.size = g := ⟨_, rfl⟩
        rw [hE_g13] at hA13 hge_g13 ⊢
        obtain ⟨V20, hE_V20⟩ : ∃ x, V1.alloc (.cells #[.int .i64 0, .int .u8 0, .int .u8 0, .int .u8 0, .int .u8 0, .int .u8 0, .int .u8 0, .int .u8 0, .int .u8 0, .int .u8 0, .int .u8 0, .int .u8 0, .int .u8 0, .int .u8 0, .int .u8 0, .int .u8 0, .int .u8 0, .slice none 0 0, .int .i64 0, .bool false] 30) = x := ⟨_, rfl⟩
        rw [hE_V20] at hPS hc hA13 hF1 ⊢
        clear hE_g13 hE_V20 hst
        refine hK.out _ _ (⟨hPS.x.rangeAt, hPS.y.rangeAt⟩) (fun hHeld => ?_)
        clear hK K
        refine wpAnyH_ready (rs := [3, 4]) (by kernel_rfl) (by simp) ?_
        refine AllReadyH.cons rfl (fun K hK => ?_) (AllReadyH.cons rfl (fun K hK => ?_) (AllReadyH.nil))
        · go_simp
          go_wp2_with (go_at_call 12; refine (HK2.out _ (hI2.out.below_ hPS.b)).mono ?_; rintro e V21 ⟨m2, d2, tok2, rfl, hF2, hr2, hbA⟩)
          have hst : Below w4.heap.size V20 V21 := hbA.mono hc.size
          have hPS := hPS.belowB hst hlx_ hly_ hlk hwb
          have hc := hc.trans hst
          have hF1 := hF1.belowB hst (fun b hb => by have h9 : b < w.heap.size := hb; omega)
          have hA13 := hA13.below hbA hA13.lt
          clear hbA hst
          refine hK.out _ _ (⟨hPS.x.rangeAt, hPS.y.rangeAt⟩) (fun hHeld => ?_)
          clear hK K
          refine wpAnyH_ready (rs := [4]) (by kernel_rfl) (by simp) ?_
          refine AllReadyH.cons rfl (fun K hK => ?_) AllReadyH.nil
          go_simp
          go_wp2_with (fail)
          have hst : Below w4.heap.size V21 (V21.alloc (.cells #[.int .i64 0, .int .u8 0, .int .u8 0, .int .u8 0, .int .u8 0, .int .u8 0, .int .u8 0, .int .u8 0, .int .u8 0, .int .u8 0, .int .u8 0, .int .u8 0, .int .u8 0, .int .u8 0, .int .u8 0, .int .u8 0, .int .u8 0, .slice none 0 0, .int .i64 0, .bool false] 30)) := (Below.refl _ _).alloc hc.size _
          have hge_g12 : w4.heap.size ≤ V21.heap.size := hc.size
          have hne_g12 := hA13.lt
          have hPS := hPS.belowB hst hlx_ hly_ hlk hwb
          have hc := hc.trans hst
          have hF1 := hF1.belowB hst (fun b hb => by have h9 : b < w.heap.size := hb; omega)
          have hF2 := hF2.belowB hst (fun b hb => by have h9 : b < w.heap.size := hb; omega)
          have hA13 := hA13.alloc (.cells #[.int .i64 0, .int .u8 0, .int .u8 0, .int .u8 0, .int .u8 0, .int .u8 0, .int .u8 0, .int .u8 0, .int .u8 0, .int .u8 0, .int .u8 0, .int .u8 0, .int .u8 0, .int .u8 0, .int .u8 0, .int .u8 0, .int .u8 0, .slice none 0 0, .int .i64 0, .bool false] 30)
          have hA12 : At (V21.alloc (.cells #[.int .i64 0, .int .u8 0, .int .u8 0, .int .u8 0, .int .u8 0, .int .u8 0, .int .u8 0, .int .u8 0, .int .u8 0, .int .u8 0, .int .u8 0, .int .u8 0, .int .u8 0, .int .u8 0, .int .u8 0, .int .u8 0, .int .u8 0, .slice none 0 0, .int .i64 0, .bool false] 30)) V21.heap.size 30 (hdL .zero .nil) := At.new V21 30 (hdL .zero .nil)
          obtain ⟨g12, hE_g12⟩ : ∃ g, V21.heap.size = g := ⟨_, rfl⟩
          rw [hE_g12] at hA12 hge_g12 hne_g12 ⊢
          obtain ⟨V22, hE_V22⟩ : ∃ x, V21.alloc (.cells #[.int .i64 0, .int .u8 0, .int .u8 0, .int .u8 0, .int .u8 0, .int .u8 0, .int .u8 0, .int .u8 0, .int .u8 0, .int .u8 0, .int .u8 0, .int .u8 0, .int .u8 0, .int .u8 0, .int .u8 0, .int .u8 0, .int .u8 0, .slice none 0 0, .int .i64 0, .bool false] 30) = x := ⟨_, rfl⟩
          rw [hE_V22] at hPS hc hA12 hF1 hF2 hA13 ⊢
          clear hE_g12 hE_V22 hst
          refine hK.out _ _ (⟨hPS.x.rangeAt, hPS.y.rangeAt⟩) (fun hHeld => ?_)
          clear hK K
          refine wpAnyH_ready (rs := [6]) (by kernel_rfl) (by simp) ?_
          refine AllReadyH.cons rfl (fun K hK => ?_) AllReadyH.nil
          refine step_st_any (by rfl) g12 30 (hdL .zero .nil) (hdL m1 d1) (by rfl) (by rfl) hA12 rfl hd_info (by rfl) ?_
          intro V23 hAn hkn
          have hst : Below w4.heap.size V22 V23 := hkn.below (Below.refl w4.heap.size V22) hc.size (by intro j hj; subst hj; exact hge_g12)
          have hPS := hPS.belowB hst hlx_ hly_ hlk hwb
          have hc := hc.trans hst
          have hF1 := hF1.belowB hst (fun b hb => by have h9 : b < w.heap.size := hb; omega)
          have hF2 := hF2.belowB hst (fun b hb => by have h9 : b < w.heap.size := hb; omega)
          have hA13 := hA13.kept hkn (by omega)
          have hA12 := hAn
          clear hAn hkn hst
          refine hK.out _ _ (⟨hPS.x.rangeAt, hPS.y.rangeAt⟩) (fun hHeld => ?_)
          clear hK K
          refine wpAnyH_ready (rs := [7]) (by kernel_rfl) (by simp) ?_
          refine AllReadyH.cons rfl (fun K hK => ?_) AllReadyH.nil
          refine step_st_any (by rfl) g13 30 (hdL .zero .nil) (hdL m2 d2) (by rfl) (by rfl) hA13 rfl hd_info (by rfl) ?_
          intro V24 hAn hkn
          have hst : Below w4.heap.size V23 V24 := hkn.below (Below.refl w4.heap.size V23) hc.size (by intro j hj; subst hj; exact hge_g13)
          have hPS := hPS.belowB hst hlx_ hly_ hlk hwb
          have hc := hc.trans hst
          have hF1 := hF1.belowB hst (fun b hb => by have h9 : b < w.heap.size := hb; omega)
          have hF2 := hF2.belowB hst (fun b hb => by have h9 : b < w.heap.size := hb; omega)
          have hA12 := hA12.kept hkn (by omega)
          have hA13 := hAn
          clear hAn hkn hst
          refine hK.out _ _ (⟨hPS.x.rangeAt, hPS.y.rangeAt⟩) (fun hHeld => ?_)
          clear hK K
          refine wpAnyH_done (by kernel_rfl) ?_ _
          go_wp2_with fail
          go_meet
          exact ⟨g12, g13, m1, d1, tok1, m2, d2, tok2, rfl, rfl, Lib.hid ⟨hPS, hA12, hA13, hF1, hF2, hr1, hr2⟩⟩
        · go_simp
          go_wp2_with (fail)
          have hst : Below w4.heap.size V20 (V20.alloc (.cells #[.int .i64 0, .int .u8 0, .int .u8 0, .int .u8 0, .int .u8 0, .int .u8 0, .int .u8 0, .int .u8 0, .int .u8 0, .int .u8 0, .int .u8 0, .int .u8 0, .int .u8 0, .int .u8 0, .int .u8 0, .int .u8 0, .int .u8 0, .slice none 0 0, .int .i64 0, .bool false] 30)) := (Below.refl _ _).alloc hc.size _
          have hge_g12 : w4.heap.size ≤ V20.heap.size := hc.size
          have hne_g12 := hA13.lt
          have hPS := hPS.belowB hst hlx_ hly_ hlk hwb
          have hc := hc.trans hst
          have hF1 := hF1.belowB hst (fun b hb => by have h9 : b < w.heap.size := hb; omega)
          have hA13 := hA13.alloc (.cells #[.int .i64 0, .int .u8 0, .int .u8 0, .int .u8 0, .int .u8 0, .int .u8 0, .int .u8 0, .int .u8 0, .int .u8 0, .int .u8 0, .int .u8 0, .int .u8 0, .int .u8 0, .int .u8 0, .int .u8 0, .int .u8 0, .int .u8 0, .slice none 0 0, .int .i64 0, .bool false] 30)
          have hA12 : At (V20.alloc (.cells #[.int .i64 0, .int .u8 0, .int .u8 0, .int .u8 0, .int .u8 0, .int .u8 0, .int .u8 0, .int .u8 0, .int .u8 0, .int .u8 0, .int .u8 0, .int .u8 0, .int .u8 0, .int .u8 0, .int .u8 0, .int .u8 0, .int .u8 0, .slice none 0 0, .int .i64 0, .bool false] 30)) V20.heap.size 30 (hdL .zero .nil) := At.new V20 30 (hdL .zero .nil)
          obtain ⟨g12, hE_g12⟩ : ∃ g, V20.heap.size = g := ⟨_, rfl⟩
          rw [hE_g12] at hA12 hge_g12 hne_g12 ⊢
          obtain ⟨V25, hE_V25⟩ : ∃ x, V20.alloc (.cells #[.int .i64 0, .int .u8 0, .int .u8 0, .int .u8 0, .int .u8 0, .int .u8 0, .int .u8 0, .int .u8 0, .int .u8 0, .int .u8 0, .int .u8 0, .int .u8 0, .int .u8 0, .int .u8 0, .int .u8 0, .int .u8 0, .int .u8 0, .slice none 0 0, .int .i64 0, .bool false] 30) = x := ⟨_, rfl⟩
          rw [hE_V25] at hPS hc hA12 hF1 hA13 ⊢
          clear hE_g12 hE_V25 hst
          refine hK.out _ _ (⟨hPS.x.rangeAt, hPS.y.rangeAt⟩) (fun hHeld => ?_)
          clear hK K
          refine wpAnyH_ready (rs := [3]) (by kernel_rfl) (by simp) ?_
          refine AllReadyH.cons rfl (fun K hK => ?_) AllReadyH.nil
          go_simp
          go_wp2_with (go_at_call 12; refine (HK2.out _ (hI2.out.below_ hPS.b)).mono ?_; rintro e V26 ⟨m2, d2, tok2, rfl, hF2, hr2, hbA⟩)
          have hst : Below w4.heap.size V25 V26 := hbA.mono hc.size
          have hPS := hPS.belowB hst hlx_ hly_ hlk hwb
          have hc := hc.trans hst
          have hF1 := hF1.belowB hst (fun b hb => by have h9 : b < w.heap.size := hb; omega)
          have hA12 := hA12.below hbA hA12.lt
          have hA13 := hA13.below hbA hA13.lt
          clear hbA hst
          refine hK.out _ _ (⟨hPS.x.rangeAt, hPS.y.rangeAt⟩) (fun hHeld => ?_)
          clear hK K
          refine wpAnyH_ready (rs := [6]) (by kernel_rfl) (by simp) ?_
          refine AllReadyH.cons rfl (fun K hK => ?_) AllReadyH.nil
          refine step_st_any (by rfl) g12 30 (hdL .zero .nil) (hdL m1 d1) (by rfl) (by rfl) hA12 rfl hd_info (by rfl) ?_
          intro V27 hAn hkn
          have hst : Below w4.heap.size V26 V27 := hkn.below (Below.refl w4.heap.size V26) hc.size (by intro j hj; subst hj; exact hge_g12)
          have hPS := hPS.belowB hst hlx_ hly_ hlk hwb
          have hc := hc.trans hst
          have hF1 := hF1.belowB hst (fun b hb => by have h9 : b < w.heap.size := hb; omega)
          have hF2 := hF2.belowB hst (fun b hb => by have h9 : b < w.heap.size := hb; omega)
          have hA13 := hA13.kept hkn (by omega)
          have hA12 := hAn
          clear hAn hkn hst
          refine hK.out _ _ (⟨hPS.x.rangeAt, hPS.y.rangeAt⟩) (fun hHeld => ?_)
          clear hK K
          refine wpAnyH_ready (rs := [7]) (by kernel_rfl) (by simp) ?_
          refine AllReadyH.cons rfl (fun K hK => ?_) AllReadyH.nil
          refine step_st_any (by rfl) g13 30 (hdL .zero .nil) (hdL m2 d2) (by rfl) (by rfl) hA13 rfl hd_info (by rfl) ?_
          intro V28 hAn hkn
          have hst : Below w4.heap.size V27 V28 := hkn.below (Below.refl w4.heap.size V27) hc.size (by intro j hj; subst hj; exact hge_g13)
          have hPS := hPS.belowB hst hlx_ hly_ hlk hwb
          have hc := hc.trans hst
          have hF1 := hF1.belowB hst (fun b hb => by have h9 : b < w.heap.size := hb; omega)
          have hF2 := hF2.belowB hst (fun b hb => by have h9 : b < w.heap.size := hb; omega)
          have hA12 := hA12.kept hkn (by omega)
          have hA13 := hAn
          clear hAn hkn hst
          refine hK.out _ _ (⟨hPS.x.rangeAt, hPS.y.rangeAt⟩) (fun hHeld => ?_)
          clear hK K
          refine wpAnyH_done (by kernel_rfl) ?_ _
          go_wp2_with fail
          go_meet
          exact ⟨g12, g13, m1, d1, tok1, m2, d2, tok2, rfl, rfl, Lib.hid ⟨hPS, hA12, hA13, hF1, hF2, hr1, hr2⟩⟩
    · go_simp
      go_wp2_with (fail)
      have hst : Below w4.heap.size Y (Y.alloc (.cells #[.int .i64 0, .int .u8 0, .int .u8 0, .int .u8 0, .int .u8 0, .int .u8 0, .int .u8 0, .int .u8 0, .int .u8 0, .int .u8 0, .int .u8 0, .int .u8 0, .int .u8 0, .int .u8 0, .int .u8 0, .int .u8 0, .int .u8 0, .slice none 0 0, .int .i64 0, .bool false] 30)) := (Below.refl _ _).alloc hc.size _
      have hge_g12 : w4.heap.size ≤ Y.heap.size := hc.size
      have hPS := hPS.belowB hst hlx_ hly_ hlk hwb
      have hc := hc.trans hst
      have hA12 : At (Y.alloc (.cells #[.int .i64 0, .int .u8 0, .int .u8 0, .int .u8 0, .int .u8 0, .int .u8 0, .int .u8 0, .int .u8 0, .int .u8 0, .int .u8 0, .int .u8 0, .int .u8 0, .int .u8 0, .int .u8 0, .int .u8 0, .int .u8 0, .int .u8 0, .slice none 0 0, .int .i64 0, .bool false] 30)) Y.heap.size 30 (hdL .zero .nil) := At.new Y 30 (hdL .zero .nil)
      obtain ⟨g12, hE_g12⟩ : ∃ g, Y.heap.size = g := ⟨_, rfl⟩
      rw [hE_g12] at hA12 hge_g12 ⊢
      obtain ⟨V29, hE_V29⟩ : ∃ x, Y.alloc (.cells #[.int .i64 0, .int .u8 0, .int .u8 0, .int .u8 0, .int .u8 0, .int .u8 0, .int .u8 0, .int .u8 0, .int .u8 0, .int .u8 0, .int .u8 0, .int .u8 0, .int .u8 0, .int .u8 0, .int .u8 0, .int .u8 0, .int .u8 0, .slice none 0 0, .int .i64 0, .bool false] 30) = x := ⟨_, rfl⟩
      rw [hE_V29] at hPS hc hA12 ⊢
      clear hE_g12 hE_V29 hst
      refine hK.out _ _ (⟨hPS.x.rangeAt, hPS.y.rangeAt⟩) (fun hHeld => ?_)
      clear hK K
      refine wpAnyH_ready (rs := [1, 5]) (by kernel_rfl) (by simp) ?_
      refine AllReadyH.cons rfl (fun K hK => ?_) (AllReadyH.cons rfl (fun K hK => ?_) (AllReadyH.nil))
      · go_simp
        go_wp2_with (go_at_call 12; refine (HK1.out _ (hI1.out.below_ hPS.b)).mono ?_; rintro e V30 ⟨m1, d1, tok1, rfl, hF1, hr1, hbA⟩)
        have hst : Below w4.heap.size V29 V30 := hbA.mono hc.size
        have hPS := hPS.belowB hst hlx_ hly_ hlk hwb
        have hc := hc.trans hst
        have hA12 := hA12.below hbA hA12.lt
        clear hbA hst
        refine hK.out _ _ (⟨hPS.x.rangeAt, hPS.y.rangeAt⟩) (fun hHeld => ?_)
        clear hK K
        refine wpAnyH_ready (rs := [3, 5]) (by kernel_rfl) (by simp) ?_
        refine AllReadyH.cons rfl (fun K hK => ?_) (AllReadyH.cons rfl (fun K hK => ?_) (AllReadyH.nil))
        · go_simp
          go_wp2_with (go_at_call 12; refine (HK2.out _ (hI2.out.below_ hPS.b)).mono ?_; rintro e V31 ⟨m2, d2, tok2, rfl, hF2, hr2, hbA⟩)
          have hst : Below w4.heap.size V30 V31 := hbA.mono hc.size
          have hPS := hPS.belowB hst hlx_ hly_ hlk hwb
          have hc := hc.trans hst
          have hF1 := hF1.belowB hst (fun b hb => by have h9 : b < w.heap.size := hb; omega)
          have hA12 := hA12.below hbA hA12.lt
          clear hbA hst
          refine hK.out _ _ (⟨hPS.x.rangeAt, hPS.y.rangeAt⟩) (fun hHeld => ?_)
          clear hK K
          refine wpAnyH_ready (rs := [5]) (by kernel_rfl) (by simp) ?_
          refine AllReadyH.cons rfl (fun K hK => ?_) AllReadyH.nil
          go_simp
          go_wp2_with (fail)
          have hst : Below w4.heap.size V31 (V31.alloc (.cells #[.int .i64 0, .int .u8 0, .int .u8 0, .int .u8 0, .int .u8 0, .int .u8 0, .int .u8 0, .int .u8 0, .int .u8 0, .int .u8 0, .int .u8 0, .int .u8 0, .int .u8 0, .int .u8 0, .int .u8 0, .int .u8 0, .int .u8 0, .slice none 0 0, .int .i64 0, .bool false] 30)) := (Below.refl _ _).alloc hc.size _
          have hge_g13 : w4.heap.size ≤ V31.heap.size := hc.size
          have hne_g13 := hA12.lt
          have hPS := hPS.belowB hst hlx_ hly_ hlk hwb
          have hc := hc.trans hst
          have hF1 := hF1.belowB hst (fun b hb => by have h9 : b < w.heap.size := hb; omega)
          have hF2 := hF2.belowB hst (fun b hb => by have h9 : b < w.heap.size := hb; omega)
          have hA12 := hA12.alloc (.cells #[.int .i64 0, .int .u8 0, .int .u8 0, .int .u8 0, .int .u8 0, .int .u8 0, .int .u8 0, .int .u8 0, .int .u8 0, .int .u8 0, .int .u8 0, .int .u8 0, .int .u8 0, .int .u8 0, .int .u8 0, .int .u8 0, .int .u8 0, .slice none 0 0, .int .i64 0, .bool false] 30)
          have hA13 : At (V31.alloc (.cells #[.int .i64 0, .int .u8 0, .int .u8 0, .int .u8 0, .int .u8 0, .int .u8 0, .int .u8 0, .int .u8 0, .int .u8 0, .int .u8 0, .int .u8 0, .int .u8 0, .int .u8 0, .int .u8 0, .int .u8 0, .int .u8 0, .int .u8 0, .slice none 0 0, .int .i64 0, .bool false] 30)) V31.heap.size 30 (hdL .zero .nil) := At.new V31 30 (hdL .zero .nil)
          obtain ⟨g13, hE_g13⟩ : ∃ g, V31.heap.size = g := ⟨_, rfl⟩
          rw [hE_g13] at hA13 hge_g13 hne_g13 ⊢
          obtain ⟨V32, hE_V32⟩ : ∃ x, V31.alloc (.cells #[.int .i64 0, .int .u8 0, .int .u8 0, .int .u8 0, .int .u8 0, .int .u8 0, .int .u8 0, .int .u8 0, .int .u8 0, .int .u8 0, .int .u8 0, .int .u8 0, .int .u8 0, .int .u8 0, .int .u8 0, .int .u8 0, .int .u8 0, .slice none 0 0, .int .i64 0, .bool false] 30) = x := ⟨_, rfl⟩
          rw [hE_V32] at hPS hc hA13 hF1 hF2 hA12 ⊢
          clear hE_g13 hE_V32 hst
          refine hK.out _ _ (⟨hPS.x.rangeAt, hPS.y.rangeAt⟩) (fun hHeld => ?_)
          clear hK K
          refine wpAnyH_ready (rs := [6]) (by kernel_rfl) (by simp) ?_
          refine AllReadyH.cons rfl (fun K hK => ?_) AllReadyH.nil
          refine step_st_any (by rfl) g12 30 (hdL .zero .nil) (hdL m1 d1) (by rfl) (by rfl) hA12 rfl hd_info (by rfl) ?_
          intro V33 hAn hkn
          have hst : Below w4.heap.size V32 V33 := hkn.below (Below.refl w4.heap.size V32) hc.size (by intro j hj; subst hj; exact hge_g12)
          have hPS := hPS.belowB hst hlx_ hly_ hlk hwb
          have hc := hc.trans hst
          have hF1 := hF1.belowB hst (fun b hb => by have h9 : b < w.heap.size := hb; omega)
          have hF2 := hF2.belowB hst (fun b hb => by have h9 : b < w.heap.size := hb; omega)
          have hA13 := hA13.kept hkn (by omega)
          have hA12 := hAn
          clear hAn hkn hst
          refine hK.out _ _ (⟨hPS.x.rangeAt, hPS.y.rangeAt⟩) (fun hHeld => ?_)
          clear hK K
          refine wpAnyH_ready (rs := [7]) (by kernel_rfl) (by simp) ?_
          refine AllReadyH.cons rfl (fun K hK => ?_) AllReadyH.nil
          refine step_st_any (by rfl) g13 30 (hdL .zero .nil) (hdL m2 d2) (by rfl) (by rfl) hA13 rfl hd_info (by rfl) ?_
          intro V34 hAn hkn
          have hst : Below w4.heap.size V33 V34 := hkn.below (Below.refl w4.heap.size V33) hc.size (by intro j hj; subst hj; exact hge_g13)
          have hPS := hPS.belowB hst hlx_ hly_ hlk hwb
          have hc := hc.trans hst
          have hF1 := hF1.belowB hst (fun b hb => by have h9 : b < w.heap.size := hb; omega)
          have hF2 := hF2.belowB hst (fun b hb => by have h9 : b < w.heap.size := hb; omega)
          have hA12 := hA12.kept hkn (by omega)
          have hA13 := hAn
          clear hAn hkn hst
          refine hK.out _ _ (⟨hPS.x.rangeAt, hPS.y.rangeAt⟩) (fun hHeld => ?_)
          clear hK K
          refine wpAnyH_done (by kernel_rfl) ?_ _
          go_wp2_with fail
          go_meet
          exact ⟨g12, g13, m1, d1, tok1, m2, d2, tok2, rfl, rfl, Lib.hid ⟨hPS, hA12, hA13, hF1, hF2, hr1, hr2⟩⟩
        · go_simp
          go_wp2_with (fail)
          have hst : Below w4.heap.size V30 (V30.alloc (.cells #[.int .i64 0, .int .u8 0, .int .u8 0, .int .u8 0, .int .u8 0, .int .u8 0, .int .u8 0, .int .u8 0, .int .u8 0, .int .u8 0, .int .u8 0, .int .u8 0, .int .u8 0, .int .u8 0, .int .u8 0, .int .u8 0, .int .u8 0, .slice none 0 0, .int .i64 0, .bool false] 30)) := (Below.refl _ _).alloc hc.size _
          have hge_g13 : w4.heap.size ≤ V30.heap.size := hc.size
          have hne_g13 := hA12.lt
          have hPS := hPS.belowB hst hlx_ hly_ hlk hwb
          have hc := hc.trans hst
          have hF1 := hF1.belowB hst (fun b hb => by have h9 : b < w.heap.size := hb; omega)
          have hA12 := hA12.alloc (.cells #[.int .i64 0, .int .u8 0, .int .u8 0, .int .u8 0, .int .u8 0, .int .u8 0, .int .u8 0, .int .u8 0, .int .u8 0, .int .u8 0, .int .u8 0, .int .u8 0, .int .u8 0, .int .u8 0, .int .u8 0, .int .u8 0, .int .u8 0, .slice none 0 0, .int .i64 0, .bool false] 30)
          have hA13 : At (V30.alloc (.cells #[.int .i64 0, .int .u8 0, .int .u8 0, .int .u8 0, .int .u8 0, .int .u8 0, .int .u8 0, .int .u8 0, .int .u8 0, .int .u8 0, .int .u8 0, .int .u8 0, .int .u8 0, .int .u8 0, .int .u8 0, .int .u8 0, .int .u8 0, .slice none 0 0, .int .i64 0, .bool false] 30)) V30.heap.size 30 (hdL .zero .nil) := At.new V30 30 (hdL .zero .nil)
          obtain ⟨g13, hE_g13⟩ : ∃ g, V30.heap.size = g := ⟨_, rfl⟩
          rw [hE_g13] at hA13 hge_g13 hne_g13 ⊢
          obtain ⟨V35, hE_V35⟩ : ∃ x, V30.alloc (.cells #[.int .i64 0, .int .u8 0, .int .u8 0, .int .u8 0, .int .u8 0, .int .u8 0, .int .u8 0, .int .u8 0, .int .u8 0, .int .u8 0, .int .u8 0, .int .u8 0, .int .u8 0, .int .u8 0, .int .u8 0, .int .u8 0, .int .u8 0, .slice none 0 0, .int .i64 0, .bool false] 30) = x := ⟨_, rfl⟩
          rw [hE_V35] at hPS hc hA13 hF1 hA12 ⊢
          clear hE_g13 hE_V35 hst
          refine hK.out _ _ (⟨hPS.x.rangeAt, hPS.y.rangeAt⟩) (fun hHeld => ?_)
          clear hK K
          refine wpAnyH_ready (rs := [3]) (by kernel_rfl) (by simp) ?_
          refine AllReadyH.cons rfl (fun K hK => ?_) AllReadyH.nil
          go_simp
          go_wp2_with (go_at_call 12; refine (HK2.out _ (hI2.out.below_ hPS.b)).mono ?_; rintro e V36 ⟨m2, d2, tok2, rfl, hF2, hr2, hbA⟩)
          have hst : Below w4.heap.size V35 V36 := hbA.mono hc.size
          have hPS := hPS.belowB hst hlx_ hly_ hlk hwb
          have hc := hc.trans hst
          have hF1 := hF1.belowB hst (fun b hb => by have h9 : b < w.heap.size := hb; omega)
          have hA12 := hA12.below hbA hA12.lt
          have hA13 := hA13.below hbA hA13.lt
          clear hbA hst
          refine hK.out _ _ (⟨hPS.x.rangeAt, hPS.y.rangeAt⟩) (fun hHeld => ?_)
          clear hK K
          refine wpAnyH_ready (rs := [6]) (by kernel_rfl) (by simp) ?_
          refine AllReadyH.cons rfl (fun K hK => ?_) AllReadyH.nil
          refine step_st_any (by rfl) g12 30 (hdL .zero .nil) (hdL m1 d1) (by rfl) (by rfl) hA12 rfl hd_info (by rfl) ?_
          intro V37 hAn hkn
          have hst : Below w4.heap.size V36 V37 := hkn.below (Below.refl w4.heap.size V36) hc.size (by intro j hj; subst hj; exact hge_g12)
          have hPS := hPS.belowB hst hlx_ hly_ hlk hwb
          have hc := hc.trans hst
          have hF1 := hF1.belowB hst (fun b hb => by have h9 : b < w.heap.size := hb; omega)
          have hF2 := hF2.belowB hst (fun b hb => by have h9 : b < w.heap.size := hb; omega)
          have hA13 := hA13.kept hkn (by omega)
          have hA12 := hAn
          clear hAn hkn hst
          refine hK.out _ _ (⟨hPS.x.rangeAt, hPS.y.rangeAt⟩) (fun hHeld => ?_)
          clear hK K
          refine wpAnyH_ready (rs := [7]) (by kernel_rfl) (by simp) ?_
          refine AllReadyH.cons rfl (fun K hK => ?_) AllReadyH.nil
          refine step_st_any (by rfl) g13 30 (hdL .zero .nil) (hdL m2 d2) (by rfl) (by rfl) hA13 rfl hd_info (by rfl) ?_
          intro V38 hAn hkn
          have hst : Below w4.heap.size V37 V38 := hkn.below (Below.refl w4.heap.size V37) hc.size (by intro j hj; subst hj; exact hge_g13)
          have hPS := hPS.belowB hst hlx_ hly_ hlk hwb
          have hc := hc.trans hst
          have hF1 := hF1.belowB hst (fun b hb => by have h9 : b < w.heap.size := hb; omega)
          have hF2 := hF2.belowB hst (fun b hb => by have h9 : b < w.heap.size := hb; omega)
          have hA12 := hA12.kept hkn (by omega)
          have hA13 := hAn
          clear hAn hkn hst
          refine hK.out _ _ (⟨hPS.x.rangeAt, hPS.y.rangeAt⟩) (fun hHeld => ?_)
          clear hK K
          refine wpAnyH_done (by kernel_rfl) ?_ _
          go_wp2_with fail
          go_meet
          exact ⟨g12, g13, m1, d1, tok1, m2, d2, tok2, rfl, rfl, Lib.hid ⟨hPS, hA12, hA13, hF1, hF2, hr1, hr2⟩⟩
      · go_simp
        go_wp2_with (fail)
        have hst : Below w4.heap.size V29 (V29.alloc (.cells #[.int .i64 0, .int .u8 0, .int .u8 0, .int .u8 0, .int .u8 0, .int .u8 0, .int .u8 0, .int .u8 0, .int .u8 0, .int .u8 0, .int .u8 0, .int .u8 0, .int .u8 0, .int .u8 0, .int .u8 0, .int .u8 0, .int .u8 0, .slice none 0 0, .int .i64 0, .bool false] 30)) := (Below.refl _ _).alloc hc.size _
        have hge_g13 : w4.heap.size ≤ V29.heap.size := hc.size
        have hne_g13 := hA12.lt
        have hPS := hPS.belowB hst hlx_ hly_ hlk hwb
        have hc := hc.trans hst
        have hA12 := hA12.alloc (.cells #[.int .i64 0, .int .u8 0, .int .u8 0, .int .u8 0, .int .u8 0, .int .u8 0, .int .u8 0, .int .u8 0, .int .u8 0, .int .u8 0, .int .u8 0, .int .u8 0, .int .u8 0, .int .u8 0, .int .u8 0, .int .u8 0, .int .u8 0, .slice none 0 0, .int .i64 0, .bool false] 30)
        have hA13 : At (V29.alloc (.cells #[.int .i64 0, .int .u8 0, .int .u8 0, .int .u8 0, .int .u8 0, .int .u8 0, .int .u8 0, .int .u8 0, .int .u8 0, .int .u8 0, .int .u8 0, .int .u8 0, .int .u8 0, .int .u8 0, .int .u8 0, .int .u8 0, .int .u8 0, .slice none 0 0, .int .i64 0, .bool false] 30)) V29.heap.size 30 (hdL .zero .nil) := At.new V29 30 (hdL .zero .nil)
        obtain ⟨g13, hE_g13⟩ : ∃ g, V29.heap.size = g := ⟨_, rfl⟩
        rw [hE_g13] at hA13 hge_g13 hne_g13 ⊢
        obtain ⟨V39, hE_V39⟩ : ∃ x, V29.alloc (.cells #[.int .i64 0, .int .u8 0, .int .u8 0, .int .u8 0, .int .u8 0, .int .u8 0, .int .u8 0, .int .u8 0, .int .u8 0, .int .u8 0, .int .u8 0, .int .u8 0, .int .u8 0, .int .u8 0, .int .u8 0, .int .u8 0, .int .u8 0, .slice none 0 0, .int .i64 0, .bool false] 30) = x := ⟨_, rfl⟩
        rw [hE_V39] at hPS hc hA13 hA12 ⊢
        clear hE_g13 hE_V39 hst
        refine hK.out _ _ (⟨hPS.x.rangeAt, hPS.y.rangeAt⟩) (fun hHeld => ?_)
        clear hK K
        refine wpAnyH_ready (rs := [1]) (by kernel_rfl) (by simp) ?_
        refine AllReadyH.cons rfl (fun K hK => ?_) AllReadyH.nil
        go_simp
        go_wp2_with (go_at_call 12; refine (HK1.out _ (hI1.out.below_ hPS.b)).mono ?_; rintro e V40 ⟨m1, d1, tok1, rfl, hF1, hr1, hbA⟩)
        have hst : Below w4.heap.size V39 V40 := hbA.mono hc.size
        have hPS := hPS.belowB hst hlx_ hly_ hlk hwb
        have hc := hc.trans hst
        have hA12 := hA12.below hbA hA12.lt
        have hA13 := hA13.below hbA hA13.lt
        clear hbA hst
        refine hK.out _ _ (⟨hPS.x.rangeAt, hPS.y.rangeAt⟩) (fun hHeld => ?_)
        clear hK K
        refine wpAnyH_ready (rs := [3]) (by kernel_rfl) (by simp) ?_
        refine AllReadyH.cons rfl (fun K hK => ?_) AllReadyH.nil
        go_simp
        go_wp2_with (go_at_call 12; refine (HK2.out _ (hI2.out.below_ hPS.b)).mono ?_; rintro e V41 ⟨m2, d2, tok2, rfl, hF2, hr2, hbA⟩)
        have hst : Below w4.heap.size V40 V41 := hbA.mono hc.size
        have hPS := hPS.belowB hst hlx_ hly_ hlk hwb
        have hc := hc.trans hst
        have hF1 := hF1.belowB hst (fun b hb => by have h9 : b < w.heap.size := hb; omega)
        have hA12 := hA12.below hbA hA12.lt
        have hA13 := hA13.below hbA hA13.lt
        clear hbA hst
        refine hK.out _ _ (⟨hPS.x.rangeAt, hPS.y.rangeAt⟩) (fun hHeld => ?_)
        clear hK K
        refine wpAnyH_ready (rs := [6]) (by kernel_rfl) (by simp) ?_
        refine AllReadyH.cons rfl (fun K hK => ?_) AllReadyH.nil
        refine step_st_any (by rfl) g12 30 (hdL .zero .nil) (hdL m1 d1) (by rfl) (by rfl) hA12 rfl hd_info (by rfl) ?_
        intro V42 hAn hkn
        have hst : Below w4.heap.size V41 V42 := hkn.below (Below.refl w4.heap.size V41) hc.size (by intro j hj; subst hj; exact hge_g12)
        have hPS := hPS.belowB hst hlx_ hly_ hlk hwb
        have hc := hc.trans hst
        have hF1 := hF1.belowB hst (fun b hb => by have h9 : b < w.heap.size := hb; omega)
        have hF2 := hF2.belowB hst (fun b hb => by have h9 : b < w.heap.size := hb; omega)
        have hA13 := hA13.kept hkn (by omega)
        have hA12 := hAn
        clear hAn hkn hst
        refine hK.out _ _ (⟨hPS.x.rangeAt, hPS.y.rangeAt⟩) (fun hHeld => ?_)
        clear hK K
        refine wpAnyH_ready (rs := [7]) (by kernel_rfl) (by simp) ?_
        refine AllReadyH.cons rfl (fun K hK => ?_) AllReadyH.nil
        refine step_st_any (by rfl) g13 30 (hdL .zero .nil) (hdL m2 d2) (by rfl) (by rfl) hA13 rfl hd_info (by rfl) ?_
        intro V43 hAn hkn
        have hst : Below w4.heap.size V42 V43 := hkn.below (Below.refl w4.heap.size V42) hc.size (by intro j hj; subst hj; exact hge_g13)
        have hPS := hPS.belowB hst hlx_ hly_ hlk hwb
        have hc := hc.trans hst
        have hF1 := hF1.belowB hst (fun b hb => by have h9 : b < w.heap.size := hb; omega)
        have hF2 := hF2.belowB hst (fun b hb => by have h9 : b < w.heap.size := hb; omega)
        have hA12 := hA12.kept hkn (by omega)
        have hA13 := hAn
        clear hAn hkn hst
        refine hK.out _ _ (⟨hPS.x.rangeAt, hPS.y.rangeAt⟩) (fun hHeld => ?_)
        clear hK K
        refine wpAnyH_done (by kernel_rfl) ?_ _
        go_wp2_with fail
        go_meet
        exact ⟨g12, g13, m1, d1, tok1, m2, d2, tok2, rfl, rfl, Lib.hid ⟨hPS, hA12, hA13, hF1, hF2, hr1, hr2⟩⟩
    · go_simp
      go_wp2_with (fail)
      have hst : Below w4.heap.size Y (Y.alloc (.cells #[.int .i64 0, .int .u8 0, .int .u8 0, .int .u8 0, .int .u8 0, .int .u8 0, .int .u8 0, .int .u8 0, .int .u8 0, .int .u8 0, .int .u8 0, .int .u8 0, .int .u8 0, .int .u8 0, .int .u8 0, .int .u8 0, .int .u8 0, .slice none 0 0, .int .i64 0, .bool false] 30)) := (Below.refl _ _).alloc hc.size _
      have hge_g13 : w4.heap.size ≤ Y.heap.size := hc.size
      have hPS := hPS.belowB hst hlx_ hly_ hlk hwb
      have hc := hc.trans hst
      have hA13 : At (Y.alloc (.cells #[.int .i64 0, .int .u8 0, .int .u8 0, .int .u8 0, .int .u8 0, .int .u8 0, .int .u8 0, .int .u8 0, .int .u8 0, .int .u8 0, .int .u8 0, .int .u8 0, .int .u8 0, .int .u8 0, .int .u8 0, .int .u8 0, .int .u8 0, .slice none 0 0, .int .i64 0, .bool false] 30)) Y.heap.size 30 (hdL .zero .nil) := At.new Y 30 (hdL .zero .nil)
      obtain ⟨g13, hE_g13⟩ : ∃ g, Y.heap.size = g := ⟨_, rfl⟩
      rw [hE_g13] at hA13 hge_g13 ⊢
      obtain ⟨V44, hE_V44⟩ : ∃ x, Y.alloc (.cells #[.int .i64 0, .int .u8 0, .int .u8 0, .int .u8 0, .int .u8 0, .int .u8 0, .int .u8 0, .int .u8 0, .int .u8 0, .int .u8 0, .int .u8 0, .int .u8 0, .int .u8 0, .int .u8 0, .int .u8 0, .int .u8 0, .int .u8 0, .slice none 0 0, .int .i64 0, .bool false] 30) = x := ⟨_, rfl⟩
      rw [hE_V44] at hPS hc hA13 ⊢
      clear hE_g13 hE_V44 hst
      refine hK.out _ _ (⟨hPS.x.rangeAt, hPS.y.rangeAt⟩) (fun hHeld => ?_)
      clear hK K
      refine wpAnyH_ready (rs := [1, 4]) (by kernel_rfl) (by simp) ?_
      refine AllReadyH.cons rfl (fun K hK => ?_) (AllReadyH.cons rfl (fun K hK => ?_) (AllReadyH.nil))
      · go_simp
        go_wp2_with (go_at_call 12; refine (HK1.out _ (hI1.out.below_ hPS.b)).mono ?_; rintro e V45 ⟨m1, d1, tok1, rfl, hF1, hr1, hbA⟩)
        have hst : Below w4.heap.size V44 V45 := hbA.mono hc.size
        have hPS := hPS.belowB hst hlx_ hly_ hlk hwb
        have hc := hc.trans hst
        have hA13 := hA13.below hbA hA13.lt
        clear hbA hst
        refine hK.out _ _ (⟨hPS.x.rangeAt, hPS.y.rangeAt⟩) (fun hHeld => ?_)
        clear hK K
        refine wpAnyH_ready (rs := [3, 4]) (by kernel_rfl) (by simp) ?_
        refine AllReadyH.cons rfl (fun K hK => ?_) (AllReadyH.cons rfl (fun K hK => ?_) (AllReadyH.nil))
        · go_simp
          go_wp2_with (go_at_call 12; refine (HK2.out _ (hI2.out.below_ hPS.b)).mono ?_; rintro e V46 ⟨m2, d2, tok2, rfl, hF2, hr2, hbA⟩)
          have hst : Below w4.heap.size V45 V46 := hbA.mono hc.size
          have hPS := hPS.belowB hst hlx_ hly_ hlk hwb
          have hc := hc.trans hst
          have hF1 := hF1.belowB hst (fun b hb => by have h9 : b < w.heap.size := hb; omega)
          have hA13 := hA13.below hbA hA13.lt
          clear hbA hst
          refine hK.out _ _ (⟨hPS.x.rangeAt, hPS.y.rangeAt⟩) (fun hHeld => ?_)
          clear hK K
          refine wpAnyH_ready (rs := [4]) (by kernel_rfl) (by simp) ?_
          refine AllReadyH.cons rfl (fun K hK => ?_) AllReadyH.nil
          go_simp
          go_wp2_with (fail)
          have hst : Below w4.heap.size V46 (V46.alloc (.cells #[.int .i64 0, .int .u8 0, .int .u8 0, .int .u8 0, .int .u8 0, .int .u8 0, .int .u8 0, .int .u8 0, .int .u8 0, .int .u8 0, .int .u8 0, .int .u8 0, .int .u8 0, .int .u8 0, .int .u8 0, .int .u8 0, .int .u8 0, .slice none 0 0, .int .i64 0, .bool false] 30)) := (Below.refl _ _).alloc hc.size _
          have hge_g12 : w4.heap.size ≤ V46.heap.size := hc.size
          have hne_g12 := hA13.lt
          have hPS := hPS.belowB hst hlx_ hly_ hlk hwb
          have hc := hc.trans hst
          have hF1 := hF1.belowB hst (fun b hb => by have h9 : b < w.heap.size := hb; omega)
          have hF2 := hF2.belowB hst (fun b hb => by have h9 : b < w.heap.size := hb; omega)
          have hA13 := hA13.alloc (.cells #[.int .i64 0, .int .u8 0, .int .u8 0, .int .u8 0, .int .u8 0, .int .u8 0, .int .u8 0, .int .u8 0, .int .u8 0, .int .u8 0, .int .u8 0, .int .u8 0, .int .u8 0, .int .u8 0, .int .u8 0, .int .u8 0, .int .u8 0, .slice none 0 0, .int .i64 0, .bool false] 30)
          have hA12 : At (V46.alloc (.cells #[.int .i64 0, .int .u8 0, .int .u8 0, .int .u8 0, .int .u8 0, .int .u8 0, .int .u8 0, .int .u8 0, .int .u8 0, .int .u8 0, .int .u8 0, .int .u8 0, .int .u8 0, .int .u8 0, .int .u8 0, .int .u8 0, .int .u8 0, .slice none 0 0, .int .i64 0, .bool false] 30)) V46.heap.size 30 (hdL .zero .nil) := At.new V46 30 (hdL .zero .nil)
          obtain ⟨g12, hE_g12⟩ : ∃ g, V46.heap.size = g := ⟨_, rfl⟩
          rw [hE_g12] at hA12 hge_g12 hne_g12 ⊢
          obtain ⟨V47, hE_V47⟩ : ∃ x, V46.alloc (.cells #[.int .i64 0, .int .u8 0, .int .u8 0, .int .u8 0, .int .u8 0, .int .u8 0, .int .u8 0, .int .u8 0, .int .u8 0, .int .u8 0, .int .u8 0, .int .u8 0, .int .u8 0, .int .u8 0, .int .u8 0, .int .u8 0, .int .u8 0, .slice none 0 0, .int .i64 0, .bool false] 30) = x := ⟨_, rfl⟩
          rw [hE_V47] at hPS hc hA12 hF1 hF2 hA13 ⊢
          clear hE_g12 hE_V47 hst
          refine hK.out _ _ (⟨hPS.x.rangeAt, hPS.y.rangeAt⟩) (fun hHeld => ?_)
          clear hK K
          refine wpAnyH_ready (rs := [6]) (by kernel_rfl) (by simp) ?_
          refine AllReadyH.cons rfl (fun K hK => ?_) AllReadyH.nil
          refine step_st_any (by rfl) g12 30 (hdL .zero .nil) (hdL m1 d1) (by rfl) (by rfl) hA12 rfl hd_info (by rfl) ?_
          intro V48 hAn hkn
          have hst : Below w4.heap.size V47 V48 := hkn.below (Below.refl w4.heap.size V47) hc.size (by intro j hj; subst hj; exact hge_g12)
          have hPS := hPS.belowB hst hlx_ hly_ hlk hwb
          have hc := hc.trans hst
          have hF1 := hF1.belowB hst (fun b hb => by have h9 : b < w.heap.size := hb; omega)
          have hF2 := hF2.belowB hst (fun b hb => by have h9 : b < w.heap.size := hb; omega)
          have hA13 := hA13.kept hkn (by omega)
          have hA12 := hAn
          clear hAn hkn hst
          refine hK.out _ _ (⟨hPS.x.rangeAt, hPS.y.rangeAt⟩) (fun hHeld => ?_)
          clear hK K
          refine wpAnyH_ready (rs := [7]) (by kernel_rfl) (by simp) ?_
          refine AllReadyH.cons rfl (fun K hK => ?_) AllReadyH.nil
          refine step_st_any (by rfl) g13 30 (hdL .zero .nil) (hdL m2 d2) (by rfl) (by rfl) hA13 rfl hd_info (by rfl) ?_
          intro V49 hAn hkn
          have hst : Below w4.heap.size V48 V49 := hkn.below (Below.refl w4.heap.size V48) hc.size (by intro j hj; subst hj; exact hge_g13)
          have hPS := hPS.belowB hst hlx_ hly_ hlk hwb
          have hc := hc.trans hst
          have hF1 := hF1.belowB hst (fun b hb => by have h9 : b < w.heap.size := hb; omega)
          have hF2 := hF2.belowB hst (fun b hb => by have h9 : b < w.heap.size := hb; omega)
          have hA12 := hA12.kept hkn (by omega)
          have hA13 := hAn
          clear hAn hkn hst
          refine hK.out _ _ (⟨hPS.x.rangeAt, hPS.y.rangeAt⟩) (fun hHeld => ?_)
          clear hK K
          refine wpAnyH_done (by kernel_rfl) ?_ _
          go_wp2_with fail
          go_meet
          exact ⟨g12, g13, m1, d1, tok1, m2, d2, tok2, rfl, rfl, Lib.hid ⟨hPS, hA12, hA13, hF1, hF2, hr1, hr2⟩⟩
        · go_simp
          go_wp2_with (fail)
          have hst : Below w4.heap.size V45 (V45.alloc (.cells #[.int .i64 0, .int .u8 0, .int .u8 0, .int .u8 0, .int .u8 0, .int .u8 0, .int .u8 0, .int .u8 0, .int .u8 0, .int .u8 0, .int .u8 0, .int .u8 0, .int .u8 0, .int .u8 0, .int .u8 0, .int .u8 0, .int .u8 0, .slice none 0 0, .int .i64 0, .bool false] 30)) := (Below.refl _ _).alloc hc.size _
          have hge_g12 : w4.heap.size ≤ V45.heap.size := hc.size
          have hne_g12 := hA13.lt
          have hPS := hPS.belowB hst hlx_ hly_ hlk hwb
          have hc := hc.trans hst
          have hF1 := hF1.belowB hst (fun b hb => by have h9 : b < w.heap.size := hb; omega)
          have hA13 := hA13.alloc (.cells #[.int .i64 0, .int .u8 0, .int .u8 0, .int .u8 0, .int .u8 0, .int .u8 0, .int .u8 0, .int .u8 0, .int .u8 0, .int .u8 0, .int .u8 0, .int .u8 0, .int .u8 0, .int .u8 0, .int .u8 0, .int .u8 0, .int .u8 0, .slice none 0 0, .int .i64 0, .bool false] 30)
          have hA12 : At (V45.alloc (.cells #[.int .i64 0, .int .u8 0, .int .u8 0, .int .u8 0, .int .u8 0, .int .u8 0, .int .u8 0, .int .u8 0, .int .u8 0, .int .u8 0, .int .u8 0, .int .u8 0, .int .u8 0, .int .u8 0, .int .u8 0, .int .u8 0, .int .u8 0, .slice none 0 0, .int .i64 0, .bool false] 30)) V45.heap.size 30 (hdL .zero .nil) := At.new V45 30 (hdL .zero .nil)
          obtain ⟨g12, hE_g12⟩ : ∃ g, V45.heap.size = g := ⟨_, rfl⟩
          rw [hE_g12] at hA12 hge_g12 hne_g12 ⊢
          obtain ⟨V50, hE_V50⟩ : ∃ x, V45.alloc (.cells #[.int .i64 0, .int .u8 0, .int .u8 0, .int .u8 0, .int .u8 0, .int .u8 0, .int .u8 0, .int .u8 0, .int .u8 0, .int .u8 0, .int .u8 0, .int .u8 0, .int .u8 0, .int .u8 0, .int .u8 0, .int .u8 0, .int .u8 0, .slice none 0 0, .int .i64 0, .bool false] 30) = x := ⟨_, rfl⟩
          rw [hE_V50] at hPS hc hA12 hF1 hA13 ⊢
          clear hE_g12 hE_V50 hst
          refine hK.out _ _ (⟨hPS.x.rangeAt, hPS.y.rangeAt⟩) (fun hHeld => ?_)
          clear hK K
          refine wpAnyH_ready (rs := [3]) (by kernel_rfl) (by simp) ?_
          refine AllReadyH.cons rfl (fun K hK => ?_) AllReadyH.nil
          go_simp
          go_wp2_with (go_at_call 12; refine (HK2.out _ (hI2.out.below_ hPS.b)).mono ?_; rintro e V51 ⟨m2, d2, tok2, rfl, hF2, hr2, hbA⟩)
          have hst : Below w4.heap.size V50 V51 := hbA.mono hc.size
          have hPS := hPS.belowB hst hlx_ hly_ hlk hwb
          have hc := hc.trans hst
          have hF1 := hF1.belowB hst (fun b hb => by have h9 : b < w.heap.size := hb; omega)
          have hA12 := hA12.below hbA hA12.lt
          have hA13 := hA13.below hbA hA13.lt
          clear hbA hst
          refine hK.out _ _ (⟨hPS.x.rangeAt, hPS.y.rangeAt⟩) (fun hHeld => ?_)
          clear hK K
          refine wpAnyH_ready (rs := [6]) (by kernel_rfl) (by simp) ?_
          refine AllReadyH.cons rfl (fun K hK => ?_) AllReadyH.nil
          refine step_st_any (by rfl) g12 30 (hdL .zero .nil) (hdL m1 d1) (by rfl) (by rfl) hA12 rfl hd_info (by rfl) ?_
          intro V52 hAn hkn
          have hst : Below w4.heap.size V51 V52 := hkn.below (Below.refl w4.heap.size V51) hc.size (by intro j hj; subst hj; exact hge_g12)
          have hPS := hPS.belowB hst hlx_ hly_ hlk hwb
          have hc := hc.trans hst
          have hF1 := hF1.belowB hst (fun b hb => by have h9 : b < w.heap.size := hb; omega)
          have hF2 := hF2.belowB hst (fun b hb => by have h9 : b < w.heap.size := hb; omega)
          have hA13 := hA13.kept hkn (by omega)
          have hA12 := hAn
          clear hAn hkn hst
          refine hK.out _ _ (⟨hPS.x.rangeAt, hPS.y.rangeAt⟩) (fun hHeld => ?_)
          clear hK K
          refine wpAnyH_ready (rs := [7]) (by kernel_rfl) (by simp) ?_
          refine AllReadyH.cons rfl (fun K hK => ?_) AllReadyH.nil
          refine step_st_any (by rfl) g13 30 (hdL .zero .nil) (hdL m2 d2) (by rfl) (by rfl) hA13 rfl hd_info (by rfl) ?_
          intro V53 hAn hkn
          have hst : Below w4.heap.size V52 V53 := hkn.below (Below.refl w4.heap.size V52) hc.size (by intro j hj; subst hj; exact hge_g13)
          have hPS := hPS.belowB hst hlx_ hly_ hlk hwb
          have hc := hc.trans hst
          have hF1 := hF1.belowB hst (fun b hb => by have h9 : b < w.heap.size := hb; omega)
          have hF2 := hF2.belowB hst (fun b hb => by have h9 : b < w.heap.size := hb; omega)
          have hA12 := hA12.kept hkn (by omega)
          have hA13 := hAn
          clear hAn hkn hst
          refine hK.out _ _ (⟨hPS.x.rangeAt, hPS.y.rangeAt⟩) (fun hHeld => ?_)
          clear hK K
          refine wpAnyH_done (by kernel_rfl) ?_ _
          go_wp2_with fail
          go_meet
          exact ⟨g12, g13, m1, d1, tok1, m2, d2, tok2, rfl, rfl, Lib.hid ⟨hPS, hA12, hA13, hF1, hF2, hr1, hr2⟩⟩
      · go_simp
        go_wp2_with (fail)
        have hst : Below w4.heap.size V44 (V44.alloc (.cells #[.int .i64 0, .int .u8 0, .int .u8 0, .int .u8 0, .int .u8 0, .int .u8 0, .int .u8 0, .int .u8 0, .int .u8 0, .int .u8 0, .int .u8 0, .int .u8 0, .int .u8 0, .int .u8 0, .int .u8 0, .int .u8 0, .int .u8 0, .slice none 0 0, .int .i64 0, .bool false] 30)) := (Below.refl _ _).alloc hc.size _
        have hge_g12 : w4.heap.size ≤ V44.heap.size := hc.size
        have hne_g12 := hA13.lt
        have hPS := hPS.belowB hst hlx_ hly_ hlk hwb
        have hc := hc.trans hst
        have hA13 := hA13.alloc (.cells #[.int .i64 0, .int .u8 0, .int .u8 0, .int .u8 0, .int .u8 0, .int .u8 0, .int .u8 0, .int .u8 0, .int .u8 0, .int .u8 0, .int .u8 0, .int .u8 0, .int .u8 0, .int .u8 0, .int .u8 0, .int .u8 0, .int .u8 0, .slice none 0 0, .int .i64 0, .bool false] 30)
        have hA12 : At (V44.alloc (.cells #[.int .i64 0, .int .u8 0, .int .u8 0, .int .u8 0, .int .u8 0, .int .u8 0, .int .u8 0, .int .u8 0, .int .u8 0, .int .u8 0, .int .u8 0, .int .u8 0, .int .u8 0, .int .u8 0, .int .u8 0, .int .u8 0, .int .u8 0, .slice none 0 0, .int .i64 0, .bool false] 30)) V44.heap.size 30 (hdL .zero .nil) := At.new V44 30 (hdL .zero .nil)
        obtain ⟨g12, hE_g12⟩ : ∃ g, V44.heap.size = g := ⟨_, rfl⟩
        rw [hE_g12] at hA12 hge_g12 hne_g12 ⊢
        obtain ⟨V54, hE_V54⟩ : ∃ x, V44.alloc (.cells #[.int .i64 0, .int .u8 0, .int .u8 0, .int .u8 0, .int .u8 0, .int .u8 0, .int .u8 0, .int .u8 0, .int .u8 0, .int .u8 0, .int .u8 0, .int .u8 0, .int .u8 0, .int .u8 0, .int .u8 0, .int .u8 0, .int .u8 0, .slice none 0 0, .int .i64 0, .bool false] 30) = x := ⟨_, rfl⟩
        rw [hE_V54] at hPS hc hA12 hA13 ⊢
        clear hE_g12 hE_V54 hst
        refine hK.out _ _ (⟨hPS.x.rangeAt, hPS.y.rangeAt⟩) (fun hHeld => ?_)
        clear hK K
        refine wpAnyH_ready (rs := [1]) (by kernel_rfl) (by simp) ?_
        refine AllReadyH.cons rfl (fun K hK => ?_) AllReadyH.nil
        go_simp
        go_wp2_with (go_at_call 12; refine (HK1.out _ (hI1.out.below_ hPS.b)).mono ?_; rintro e V55 ⟨m1, d1, tok1, rfl, hF1, hr1, hbA⟩)
        have hst : Below w4.heap.size V54 V55 := hbA.mono hc.size
        have hPS := hPS.belowB hst hlx_ hly_ hlk hwb
        have hc := hc.trans hst
        have hA12 := hA12.below hbA hA12.lt
        have hA13 := hA13.below hbA hA13.lt
        clear hbA hst
        refine hK.out _ _ (⟨hPS.x.rangeAt, hPS.y.rangeAt⟩) (fun hHeld => ?_)
        clear hK K
        refine wpAnyH_ready (rs := [3]) (by kernel_rfl) (by simp) ?_
        refine AllReadyH.cons rfl (fun K hK => ?_) AllReadyH.nil
        go_simp
        go_wp2_with (go_at_call 12; refine (HK2.out _ (hI2.out.below_ hPS.b)).mono ?_; rintro e V56 ⟨m2, d2, tok2, rfl, hF2, hr2, hbA⟩)
        have hst : Below w4.heap.size V55 V56 := hbA.mono hc.size
        have hPS := hPS.belowB hst hlx_ hly_ hlk hwb
        have hc := hc.trans hst
        have hF1 := hF1.belowB hst (fun b hb => by have h9 : b < w.heap.size := hb; omega)
        have hA12 := hA12.below hbA hA12.lt
        have hA13 := hA13.below hbA hA13.lt
        clear hbA hst
        refine hK.out _ _ (⟨hPS.x.rangeAt, hPS.y.rangeAt⟩) (fun hHeld => ?_)
        clear hK K
        refine wpAnyH_ready (rs := [6]) (by kernel_rfl) (by simp) ?_
        refine AllReadyH.cons rfl (fun K hK => ?_) AllReadyH.nil
        refine step_st_any (by rfl) g12 30 (hdL .zero .nil) (hdL m1 d1) (by rfl) (by rfl) hA12 rfl hd_info (by rfl) ?_
        intro V57 hAn hkn
        have hst : Below w4.heap.size V56 V57 := hkn.below (Below.refl w4.heap.size V56) hc.size (by intro j hj; subst hj; exact hge_g12)
        have hPS := hPS.belowB hst hlx_ hly_ hlk hwb
        have hc := hc.trans hst
        have hF1 := hF1.belowB hst (fun b hb => by have h9 : b < w.heap.size := hb; omega)
        have hF2 := hF2.belowB hst (fun b hb => by have h9 : b < w.heap.size := hb; omega)
        have hA13 := hA13.kept hkn (by omega)
        have hA12 := hAn
        clear hAn hkn hst
        refine hK.out _ _ (⟨hPS.x.rangeAt, hPS.y.rangeAt⟩) (fun hHeld => ?_)
        clear hK K
        refine wpAnyH_ready (rs := [7]) (by kernel_rfl) (by simp) ?_
        refine AllReadyH.cons rfl (fun K hK => ?_) AllReadyH.nil
        refine step_st_any (by rfl) g13 30 (hdL .zero .nil) (hdL m2 d2) (by rfl) (by rfl) hA13 rfl hd_info (by rfl) ?_
        intro V58 hAn hkn
        have hst : Below w4.heap.size V57 V58 := hkn.below (Below.refl w4.heap.size V57) hc.size (by intro j hj; subst hj; exact hge_g13)
        have hPS := hPS.belowB hst hlx_ hly_ hlk hwb
        have hc := hc.trans hst
        have hF1 := hF1.belowB hst (fun b hb => by have h9 : b < w.heap.size := hb; omega)
        have hF2 := hF2.belowB hst (fun b hb => by have h9 : b < w.heap.size := hb; omega)
        have hA12 := hA12.kept hkn (by omega)
        have hA13 := hAn
        clear hAn hkn hst
        refine hK.out _ _ (⟨hPS.x.rangeAt, hPS.y.rangeAt⟩) (fun hHeld => ?_)
        clear hK K
        refine wpAnyH_done (by kernel_rfl) ?_ _
        go_wp2_with fail
        go_meet
        exact ⟨g12, g13, m1, d1, tok1, m2, d2, tok2, rfl, rfl, Lib.hid ⟨hPS, hA12, hA13, hF1, hF2, hr1, hr2⟩⟩
  case rest =>
    obtain ⟨g12, g13, m1, d1, tok1, m2, d2, tok2, rfl, rfl, hall⟩ := hcut
    obtain ⟨hPS, hA12, hA13, hF1, hF2, hr1, hr2⟩ := hall.out
    have hk1 := hright_parts _ _ hr1
    have hk2 := hright_parts _ _ hr2
    have hwf1 := hF1.wf
    have hwf2 := hF2.wf
    have htk1 := hF1.dt.rd.byt
    have htk2 := hF2.dt.rd.byt
    have hlp1 := hA12.lt
    have hlp2 := hA13.lt
    have hpyl := hPS.p.1
    have hpyb := hPS.p.2.1
    have kc := fun (w : World) (C : Array Value) (n c : Nat) => Lib.run_convert_bytes_const (P := Try.prog) w 28 5 C n c Try.underlying28 Try.underlying5
    have hbm : Below wc.heap.size wc (wc.alloc (.cells #[.int .u8 102, .int .u8 111, .int .u8 117, .int .u8 114] 5 (4, 5))) := (Below.refl _ _).alloc (Nat.le_refl _) _
    have hrm : Rd (wc.alloc (.cells #[.int .u8 102, .int .u8 111, .int .u8 117, .int .u8 114] 5 (4, 5))) (wc.heap.size + 1) (some ⟨wc.heap.size, 0, none⟩) 4 [102, 111, 117, 114] := Rd.litm wc 5 [102, 111, 117, 114] (by intro x hx; simp at hx; omega) #[.int .u8 102, .int .u8 111, .int .u8 117, .int .u8 114] (4, 5) rfl
    have hsm : (wc.alloc (.cells #[.int .u8 102, .int .u8 111, .int .u8 117, .int .u8 114] 5 (4, 5))).heap.size = wc.heap.size + 1 := by simp
    rw [← hsm] at hrm
    obtain ⟨w5, hw5⟩ : ∃ x, wc.alloc (.cells #[.int .u8 102, .int .u8 111, .int .u8 117, .int .u8 114] 5 (4, 5)) = x := ⟨_, rfl⟩
    rw [hw5] at hbm hrm
    have hsc := hPS.b.size
    have hb5 := hPS.b.trans (hbm.mono hsc)
    have hp5 := hPS.p.below (hbm.mono hsc)
    have hA125 := hA12.below hbm hlp1
    have hA135 := hA13.below hbm hlp2
    have hK5 := hPS.k.below hbm hPS.k.lt
    have hF15 := hF1.below hbm
    have hF25 := hF2.below hbm
    have hs5 := hbm.size
    clear hsm hbm hA12 hA13 hF1 hF2 hall hI1 hI2 HK1 HK2 HXL HYL hPS hP3
    go_wp2_with fail
    refine (HCP.out w5).mono ?_
    rintro e w6 ⟨rfl, rfl⟩
    go_wp2_with (first | (at_builtin; refine wpList_app_lit (by rfl) (.tmp 31) (.tmp 33) 28 (by rfl) 5 i0 Try.underlying28 hi hz0 hz1 hz2 wc.heap.size 4 w5.heap.size w.heap.size [102, 111, 117, 114] (by rfl) hrm (by omega) Ap mp cp pay1 (by rfl) hp5 (Nat.le_refl _) (by omega) ?_; intro A7 c7 w7 x1 x2 x3 hr7 hb7) | fail)
    have hA127 := hA125.below hb7 hA125.lt
    have hA137 := hA135.below hb7 hA135.lt
    have hK7 := hK5.below hb7 hK5.lt
    have hF17 := hF15.below hb7
    have hF27 := hF25.below hb7
    have hb8 := hb5.trans (hb7.mono hb5.size)
    have hpl7 : ([102, 111, 117, 114] ++ pay1).length = 4 + mp := by rw [List.length_append, hpyl]; rfl
    have hpb7 : Byt ([102, 111, 117, 114] ++ pay1) := Byt.app (by intro x hx; simp at hx; omega) hpyb
    obtain ⟨pay, hpay⟩ : ∃ p, [102, 111, 117, 114] ++ pay1 = p := ⟨_, rfl⟩
    rw [hpay] at hr7 hpl7 hpb7
    obtain ⟨np', hnp'⟩ : ∃ l, 4 + mp = l := ⟨_, rfl⟩
    rw [hnp'] at hr7 hpl7 x1
    have hnpb : 4 ≤ np' ∧ np' ≤ 104 := by omega
    clear hrm hp5 hA125 hA135 hK5 hF15 hF25 hb7 hb5 hpay kc
    have hsm2 := small_any n w7 n0 n1
    have hsb := smallS_bd n n0
    obtain ⟨sn, hsn⟩ : ∃ s, smallS n = s := ⟨_, rfl⟩
    rw [hsn] at hsm2 hsb
    have HSM2 := Lib.hid hsm2
    clear hsm2 hsn
    rw [hnp']
    go_wp2_with fail
    refine HSM2.out.mono ?_
    rintro e w8 ⟨rfl, hb9⟩
    have hA128 := hA127.below hb9 hA127.lt
    have hA138 := hA137.below hb9 hA137.lt
    have hK8 := hK7.below hb9 hK7.lt
    have hF18 := hF17.below hb9
    have hF28 := hF27.below hb9
    have hr8 := (hr7.below hb9).more hb9.size
    have hb10 := hb8.trans (hb9.mono hb8.size)
    obtain ⟨N, hN⟩ : ∃ N, sn % 4611686018427387903 = N := ⟨_, rfl⟩
    have hNb : 0 ≤ N ∧ N < 4611686018427387903 := by omega
    have hm1 := may_ok N m1 tok1 pay hr1 (by omega) (by omega) (by omega)
    have hm2 := may_ok N m2 tok2 pay hr2 (by omega) (by omega) (by omega)
    have hct1 := cut_pack sk mk N m1 tok1 pay (packS sk mk N m2 tok2 pay) hm1 hwf1.tb hwf1.fb htk1 hpb7
    obtain ⟨l9, hl9⟩ : ∃ l, IntKind.u64.wrap (N - 1) = l := ⟨_, rfl⟩
    have hl9b : 0 ≤ l9 ∧ l9 < 18446744073709551616 := by rw [← hl9]; exact u64_wrap_bd _
    obtain ⟨ps, hps⟩ : ∃ b, decide (0 < N) = b := ⟨_, rfl⟩
    have hwh : wholeS l9 ps (cutS N m1.w) m1.w = N := by
      by_cases h0 : N = 0
      · have : ps = false := by rw [← hps]; exact decide_eq_false (by omega)
        rw [this]; exact whole_small _ _ _ (by omega) (by omega)
      · have : ps = true := by rw [← hps]; exact decide_eq_true (by omega)
        have h2 : l9 = N - 1 := by rw [← hl9, IntKind.wrap_u64]; omega
        rw [this, h2]; exact whole_back _ _ (by omega) (by omega)
    have hun := unp_pack sk mk N m1 tok1 pay [] l9 ps hm1 hwf1.tb hwf1.fb htk1 hpb7 (fun _ => rfl) hwh
    rw [List.append_nil] at hun
    have HP1 := Lib.hid (fun W (h : HFits W (fun b => b < w.heap.size) m1 d1 tok1) (h' : Rd W W.heap.size A7 np' pay) => (show Calls Try.prog 15 #[.agg (kL sk mk).toArray, hdV m1 d1, .int .u64 N, .slice A7 np' c7] W (fun e w' => ∃ v, e = .returned (.tuple #[v, .int .i64 0]) ∧ Own w' W.heap.size 5 v (packS sk mk N m1 tok1 pay) ∧ Below W.heap.size W w') from
      (protect_any _ sk mk N m1 d1 tok1 A7 np' c7 pay W h h' x1 x2 (by omega) hsk.1 hsk.2 hmk.1 hmk.2 (by omega) (by omega) (by omega) (by omega)).mono (fun e w' hh => by unfold ProPost at hh; rw [if_pos hm1, if_pos hm1] at hh; exact hh)))
    have HP2 := Lib.hid (fun W (h : HFits W (fun b => b < w.heap.size) m2 d2 tok2) (h' : Rd W W.heap.size A7 np' pay) => (show Calls Try.prog 15 #[.agg (kL sk mk).toArray, hdV m2 d2, .int .u64 N, .slice A7 np' c7] W (fun e w' => ∃ v, e = .returned (.tuple #[v, .int .i64 0]) ∧ Own w' W.heap.size 5 v (packS sk mk N m2 tok2 pay) ∧ Below W.heap.size W w') from
      (protect_any _ sk mk N m2 d2 tok2 A7 np' c7 pay W h h' x1 x2 (by omega) hsk.1 hsk.2 hmk.1 hmk.2 (by omega) (by omega) (by omega) (by omega)).mono (fun e w' hh => by unfold ProPost at hh; rw [if_pos hm2, if_pos hm2] at hh; exact hh)))
    have hpl := fun m tok h => pack_len sk mk N m tok pay h
    have hl1 := hpl m1 tok1 hm1
    have hl2 := hpl m2 tok2 hm2
    obtain ⟨X, hX⟩ : ∃ X, packS sk mk N m1 tok1 pay = X := ⟨_, rfl⟩
    obtain ⟨Z, hZ⟩ : ∃ Z, packS sk mk N m2 tok2 pay = Z := ⟨_, rfl⟩
    rw [hX] at HP1 hun hct1 hl1
    rw [hZ] at HP2 hct1 hl2
    obtain ⟨nx, hnx⟩ : ∃ l, X.length = l := ⟨_, rfl⟩
    obtain ⟨nz, hnz⟩ : ∃ l, Z.length = l := ⟨_, rfl⟩
    rw [hnx] at hl1
    rw [hnz] at hl2
    have HR := Lib.hid (fun W A c (h : Rd W W.heap.size A nx X) (h1 : nx ≤ c) (h2 : c ≤ maxLen) (h3 : A = none → c = 0) => (show Calls Try.prog 16 #[.agg (kL sk mk).toArray, .slice A nx c, .int .u64 l9, .bool ps] W (fun e w' => ∃ d v, e = .returned (.tuple #[hdV m1 d, .int .u64 N, v, .int .i64 0]) ∧ InD w' (fun b => W.heap.size ≤ b) d tok1 ∧ Own w' W.heap.size 5 v pay ∧ Below W.heap.size W w') from
      (unprotect_any sk mk l9 ps A nx c X W h (by omega) h1 h2 h3 hsk.1 hsk.2 hmk.1 hmk.2 hl9b.1 hl9b.2).mono (fun e w' hh => by unfold UnpPost at hh; rw [hun] at hh; obtain ⟨d, v, g1, g2, g3, g4, g5⟩ := hh; exact ⟨d, v, g1, g2, g4, g5⟩)))
    have hkk : kL sk mk = [.int .u64 sk, .int .u64 mk] := rfl
    rw [hkk] at HP1 HP2 HR
    have HNX := Lib.hid hnx
    have HNZ := Lib.hid hnz
    have HCT := Lib.hid hct1
    have HSN := Lib.hid (And.intro hwf1 hr1)
    have hvv1 : hdV m1 d1 = .agg (hdL m1 d1).toArray := rfl
    have hvv2 : hdV m2 d2 = .agg (hdL m2 d2).toArray := rfl
    rw [hvv1] at HP1
    rw [hvv2] at HP2
    have hcs1 : (hdL m1 d1)[0]? = some (.int .i64 m1.s) := rfl
    obtain ⟨G1, hG1⟩ : ∃ G, hdL m1 d1 = G := ⟨_, rfl⟩
    obtain ⟨G2, hG2⟩ : ∃ G, hdL m2 d2 = G := ⟨_, rfl⟩
    have hGl1 : G1.length = 20 := by rw [← hG1]; rfl
    have hGl2 : G2.length = 20 := by rw [← hG2]; rfl
    rw [hG1] at HP1 hA128 hcs1 hvv1
    rw [hG2] at HP2 hA138
    have HGL1 := Lib.hid hGl1
    have HGL2 := Lib.hid hGl2
    have HVV1 := Lib.hid hvv1
    have HCS1 := Lib.hid hcs1
    have hs1a := hk1.1
    have hs1b := hk1.2.1
    clear hG1 hG2 hGl1 hGl2 hvv1 hvv2 hcs1 hkk hnx hnz hct1 hX hZ hun hpl hwh hm1 hm2 hb9 hb8 hA127 hA137 hK7 hF17 hF27 hr7 hk1 hk2 hwf1 hwf2 htk1 htk2
    go_wp2_with (first | ((with_reducible refine at_ldk ?_); refine ld_kt w3.heap.size [.int .u64 sk, .int .u64 mk] (by rfl) hK8 rfl ?_) | ((with_reducible refine at_ldh (x := .tmp 12) ?_); refine ld_hd g12 G1 (by rfl) hA128 HGL1.out ?_) | fail)
    refine (HP1.out w8 hF18 hr8).mono ?_
    rintro e w9 ⟨v9, rfl, ho9, hb11⟩
    have hA129 := hA128.below hb11 hA128.lt
    have hA139 := hA138.below hb11 hA138.lt
    have hK9 := hK8.below hb11 hK8.lt
    have hF19 := hF18.below hb11
    have hF29 := hF28.below hb11
    have hr9 := (hr8.below hb11).more hb11.size
    have hb12 := hb10.trans (hb11.mono hb10.size)
    clear hA128 hA138 hK8 hF18 hF28 hr8 hb11 hb10
    go_wp2_with (first | ((with_reducible refine at_ldk ?_); refine ld_kt w3.heap.size [.int .u64 sk, .int .u64 mk] (by rfl) hK9 rfl ?_) | ((with_reducible refine at_ldh (x := .tmp 13) ?_); refine ld_hd g13 G2 (by rfl) hA139 HGL2.out ?_) | fail)
    refine (HP2.out w9 hF29 hr9).mono ?_
    rintro e w10 ⟨v10, rfl, ho10, hb13⟩
    have hA1210 := hA129.below hb13 hA129.lt
    have hK10 := hK9.below hb13 hK9.lt
    have hF110 := hF19.below hb13
    have hr10 := (hr9.below hb13).more hb13.size
    have ho910 := ho9.below hb13 (Nat.le_refl _)
    have hb14 := hb12.trans (hb13.mono hb12.size)
    obtain ⟨A9, c9, hv9, y1, y2, y3⟩ := ho910.open_n nx HNX.out
    have hA9 : A9 = none → c9 = 0 := by
      intro hh; subst hh
      obtain ⟨g, c, _, hv, _⟩ := ho910.place (by rw [HNX.out]; omega)
      rw [hv9] at hv; injection hv with hv; cases hv
    subst hv9
    obtain ⟨A10, c10, hv10, z1, z2, z3⟩ := ho10.open_n nz HNZ.out
    subst hv10
    clear hA129 hA139 hK9 hF19 hF29 hr9 hb13 hb12 ho9 ho10 ho910
    go_wp2_with (first | ((with_reducible refine at_ldk ?_); refine ld_kt w3.heap.size [.int .u64 sk, .int .u64 mk] (by rfl) hK10 rfl ?_) | fail)
    refine (HR.out w10 A9 c9 y3 y1 y2 hA9).mono ?_
    rintro e w11 ⟨d11, v11, rfl, hi11, ho11, hb15⟩
    have hA1211 := hA1210.below hb15 hA1210.lt
    have hF111 := hF110.below hb15
    have hr11 := (hr10.below hb15).more hb15.size
    have hX11 := (y3.below hb15).more hb15.size
    have hZ11 := (z3.below hb15).more hb15.size
    have hb16 := hb14.trans (hb15.mono hb14.size)
    have hN11 : At (w11.alloc (.cells #[.int .i64 0, .int .u8 0, .int .u8 0, .int .u8 0, .int .u8 0, .int .u8 0, .int .u8 0, .int .u8 0, .int .u8 0, .int .u8 0, .int .u8 0, .int .u8 0, .int .u8 0, .int .u8 0, .int .u8 0, .int .u8 0, .int .u8 0, .slice none 0 0, .int .i64 0, .bool false] 30)) w11.heap.size 30 (hdL .zero .nil) := At.new w11 30 (hdL .zero .nil)
    have hbz : Below w11.heap.size w11 (w11.alloc (.cells #[.int .i64 0, .int .u8 0, .int .u8 0, .int .u8 0, .int .u8 0, .int .u8 0, .int .u8 0, .int .u8 0, .int .u8 0, .int .u8 0, .int .u8 0, .int .u8 0, .int .u8 0, .int .u8 0, .int .u8 0, .int .u8 0, .int .u8 0, .slice none 0 0, .int .i64 0, .bool false] 30)) := (Below.refl _ _).alloc (Nat.le_refl _) _
    have hFr : HFits w11 (fun b => w10.heap.size ≤ b) m1 d11 tok1 := ⟨HSN.out.1, hi11⟩
    have hvv : hdV m1 d11 = .agg (hdL m1 d11).toArray := rfl
    rw [hvv]
    have hGo : (hdL m1 d11).all (·.oneCell') = true := rfl
    obtain ⟨G, hG⟩ : ∃ G, hdL m1 d11 = G := ⟨_, rfl⟩
    have hGl : G.length = 20 := by rw [← hG]; rfl
    rw [hG] at hvv hGo ⊢
    have HVV := Lib.hid hvv
    have HGL := Lib.hid hGl
    clear hvv hG hGl hA1210 hK10 hF110 hr10 y3 z3 hb15 hb14 hi11
    obtain ⟨Ar, cr, hvr, _, _, hrp11⟩ := ho11.open_n np' hpl7
    subst hvr
    obtain ⟨Tp, hTp⟩ : ∃ T, strOfNums pay = T := ⟨_, rfl⟩
    have HTP := Lib.hid hTp
    have hTT : (Tp.toList == Tp.toList) = true := by simp
    have hTN : (Tp.toList != Tp.toList) = false := by simp
    clear hTp ho11
    go_wp2_with (first | ((with_reducible refine at_sth ?_); refine st_hd w11.heap.size (hdL .zero .nil) G (by rfl) (by rfl) hN11 rfl HGL.out hGo ?_; intro w12 hA18 hk12; have hbs := hk12.below hbz hbz.size (by intro j hj; subst hj; exact Nat.le_refl _); have hA1212 := hA1211.below hbs hA1211.lt; have hF112 := hF111.below hbs; have hFr12 := hFr.below hbs; have hr12 := (hr11.below hbs).more hbs.size; have hX12 := (hX11.below hbs).more hbs.size; have hZ12 := (hZ11.below hbs).more hbs.size; have hrp12 := (hrp11.below hbs).more hbs.size; have hb17 := hb16.trans (hbs.mono hb16.size); clear hbs hbz hk12 hN11 hA1211 hF111 hFr hr11 hX11 hZ11 hrp11 hb16) | ((with_reducible refine at_ldh (x := .tmp 18) ?_); refine ld_off_g w11.heap.size 0 G _ (by rfl) (by rfl) hA18.rangeAt Try.underlying30 rfl (by rw [HGL.out]; exact hd_info) ?_) | ((with_reducible refine at_ldh (x := .tmp 12) ?_); refine ld_off_g g12 0 G1 _ (by rfl) (by rfl) hA1212.rangeAt Try.underlying30 rfl (by rw [HGL1.out]; exact hd_info) ?_) | fail)
    have HS1 := (show Calls Try.prog 17 #[.agg G.toArray, .agg G1.toArray] w12 (FrPost (.bool true) w12) from by rw [← HVV.out, ← HVV1.out]; exact rhsame_eq _ _ m1 d11 d1 tok1 w12 hFr12 hF112)
    refine HS1.mono ?_
    rintro e w13 ⟨rfl, hb18⟩
    have hA1213 := hA1212.below hb18 hA1212.lt
    have hr13 := (hr12.below hb18).more hb18.size
    have hX13 := (hX12.below hb18).more hb18.size
    have hZ13 := (hZ12.below hb18).more hb18.size
    have hrp13 := (hrp12.below hb18).more hb18.size
    have hb19 := hb17.trans (hb18.mono hb17.size)
    have t1 := run_text (P := Try.prog) (c := cr) hrp13 28 5 9 Try.underlying28 Try.underlying5 Try.underlying9
    have t2 := run_text (P := Try.prog) (c := c7) hr13 28 5 9 Try.underlying28 Try.underlying5 Try.underlying9
    rw [HTP.out] at t1 t2
    have hc0 := (show w13.cell? ⟨g12, 0, none⟩ = some (.int .i64 m1.s) by rw [hA1213.cell 0]; exact HCS1.out)
    clear HS1 hFr12 hF112 hr12 hX12 hZ12 hrp12 hb17 hb18 hA1212 hA18
    have hbE : Below w13.heap.size w13 (w13.alloc (.cells #[] 5 )) := (Below.refl _ _).alloc (Nat.le_refl _) _
    have hX14 := hX13.below hbE
    have hZ14 := hZ13.below hbE
    have hN0 : decide (N = N) = true := by simp
    go_wp2_with (first | (at_builtin; refine wpList_append_rd (by rfl) (.tmp 93) (.tmp 94) 28 rfl w13.heap.size 5 i0 Try.underlying28 hi hz0 hz1 hz2 _ [] (by rfl) (Own.of_block (n := 0) (cap := 0) Byt.nil rfl (heap_alloc_new w13 _) (Nat.le_refl _) (Nat.le_refl _) (Nat.zero_le _) rfl rfl) _ A9 nx c9 X (by rfl) hX14 (by simp; omega) w13 hbE hbE.size ?_; intro v15 w15 ho15 hb15 hg15; have ho15 := ho15.cast (List.nil_append X); have hZ15 := (hZ13.below hb15)) | (at_builtin; refine wpList_append_rd (by rfl) (.tmp 95) (.tmp 96) 28 rfl w13.heap.size 5 i0 Try.underlying28 hi hz0 hz1 hz2 _ X (by rfl) ho15 _ A10 nz c10 Z (by rfl) hZ15 (by rw [HNX.out]; omega) w13 hb15 hb15.size ?_; intro v16 w16 ho16 hb16 hg16; obtain ⟨A16, c16, hv16, u1, u2, u3⟩ := ho16.open_n (nx + nz) (by rw [List.length_append, HNX.out, HNZ.out]); have hA16 := ho16.nn (by rw [List.length_append, HNX.out, HNZ.out]; omega); subst hv16) | fail)
    have hnn := hA16 A16 (nx + nz) c16 rfl
    obtain ⟨x9, hx91, hx92⟩ := HCT.out
    have hl16 : (X ++ Z).length = nx + nz := by rw [List.length_append, HNX.out, HNZ.out]
    rw [hl16, HNX.out] at hx92
    have HC9 := (cut9_any A16 (nx + nz) c16 (X ++ Z) w16 u3 (by omega) (fun h => absurd h hnn)).mono (R' := fun e w' => e = .returned (.tuple #[.int .i64 x9.2.2.2, .bool true]) ∧ Below w16.heap.size w16 w') (fun e w' hh => by rw [hx91] at hh; exact hh)
    refine HC9.mono ?_
    rintro e w17 ⟨rfl, hb17⟩
    have hA1217 := (hA1213.below hb16 (by have := hA1213.lt; omega)).below hb17 (by have := hA1213.lt; have := hb16.size; omega)
    have hc17 := (show w17.cell? ⟨g12, 0, none⟩ = some (.int .i64 m1.s) by rw [hA1217.cell 0]; exact HCS1.out)
    have hb20 := (hb19.trans (hb16.mono hb19.size)).trans (hb17.mono (by have := hb19.size; have := hb16.size; omega))
    obtain ⟨en, hen⟩ : ∃ x, x9.2.2.2 = x := ⟨_, rfl⟩
    rw [hen] at hx92 ⊢
    have HKN := Lib.hid (fun W => known9_any W)
    clear HC9 hx91 hen u3 ho16 hg16 hA1213 hc0 hb16 hb17 hX14 hZ14 hX13 hZ13 hA1217 t1 t2 ho15 hZ15 hb15 hA16 hrp13 hr13
    by_cases h2 : m1.s = 2
    · rw [if_pos h2] at hx92
      subst hx92
      have hg1 : decide (m1.s = 2) = true := decide_eq_true h2
      have hg2 : (m1.s != 2) = false := by rw [h2]; rfl
      go_wp2_with fail
      refine (HKN.out w17).mono ?_
      rintro e w18 ⟨rfl, hb18⟩
      go_wp2_with fail
      go_ret
      exact ⟨rfl, hb20.trans (hb18.mono hb20.size)⟩
    · rw [if_neg h2] at hx92
      subst hx92
      have hg1 : decide (m1.s = 2) = false := decide_eq_false h2
      have hg2 : (m1.s != 2) = true := bne_iff_ne.2 h2
      have hg3 : (m1.s == 2) = false := by rw [beq_eq_false_iff_ne]; exact h2
      obtain ⟨ms1, hms1⟩ : ∃ x, m1.s = x := ⟨_, rfl⟩
      rw [hms1] at hg1 hg2 hg3 hc17 hs1a hs1b
      clear h2 hms1
      go_wp2_with fail
      refine (HKN.out w17).mono ?_
      rintro e w18 ⟨rfl, hb18⟩
      go_wp2_with fail
      go_ret
      exact ⟨rfl, hb20.trans (hb18.mono hb20.size)⟩
theorem pback9_law (secret : Int) (S T F W' : Int) (tA : Option Addr) (tn tc : Nat) (bs0 : List Int) (ph : Bool) (S2 T2 F2 W2' : Int) (tA2 : Option Addr) (tn2 tc2 : Nat) (bs2 : List Int) (ph2 : Bool) (n : Int) (Ap : Option Addr) (np cp : Nat) (pay0 : List Int) (w : World)
    (hs : (Lit.int .u64 secret).wf = true) (hx : XIn w S T F W' tA tn tc bs0) (hy : XIn w S2 T2 F2 W2' tA2 tn2 tc2 bs2) (hn : (Lit.int .u64 n).wf = true) (hip : InRow w Ap np cp pay0) :
    Calls Try.prog 4 #[.int .u64 secret, .agg (xL S T F W' ⟨tA, tn, tc⟩ ph).toArray, .agg (xL S2 T2 F2 W2' ⟨tA2, tn2, tc2⟩ ph2).toArray, .int .u64 n, .slice Ap np cp] w fun e w'' => e = .returned (.bool true) ∧ Below w.heap.size w w'' :=
  pback9_walk secret S T F W' tA tn tc bs0 ph S2 T2 F2 W2' tA2 tn2 tc2 bs2 ph2 n Ap np cp pay0 w (bounds_u64 hs).1 (by have := (bounds_u64 hs).2; omega) hx hy (bounds_u64 hn).1 (by have := (bounds_u64 hn).2; omega) hip
end Go.Proofs.Ytijjiifekilapaa
