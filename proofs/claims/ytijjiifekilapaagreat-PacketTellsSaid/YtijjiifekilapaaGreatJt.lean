/-
  PacketTells returns true at every input: its walk.
-/
import Derived.Test.YtijjiifekilapaaGreatMq18
import Derived.Test.YtijjiifekilapaaGreatHback
import Derived.Test.YtijjiifekilapaaGreatL3
import Derived.Test.YtijjiifekilapaaGreatMq7
namespace Go.Proofs.YtijjiifekilapaaGreat
set_option linter.unusedVariables false
set_option linter.unusedSimpArgs false
open Go.RowKit Go.ChangeShapes Go.WideShapes Go.Deep
theorem pack_len (sk mk n : Int) (m : HN) (tok pay : List Int) (h : mayB n m tok pay = true) : 1 ≤ (packS sk mk n m tok pay).length ∧ (packS sk mk n m tok pay).length ≤ 512 := by
  unfold mayB at h
  simp only [Bool.and_eq_true, decide_eq_true_eq] at h
  obtain ⟨⟨⟨hr, hn⟩, hw4⟩, hl⟩ := h
  obtain ⟨s0, s2, w0, w4, t32, t0, p0, f0⟩ := hright_parts _ _ hr
  unfold packS
  rw [turnB_len]
  unfold bareS
  rw [List.length_append, List.length_append, beS_len, sealS_len]
  omega
theorem x6_info : (Tryz.prog.info? 25).map (·.size) = some 6 := by kernel_rfl
/-- What stays while PacketTells asks. -/
structure TlS (w : World) (gk gh : Nat) (sk mk : Int) (G : List Value) (m : HN) (d : Sl) (tok : List Int) (Ap : Option Addr) (mp : Nat) (pay : List Int) (Ab : Option Addr) (mb : Nat) (bb : List Int) (W : World) : Prop where
  k : At W gk 27 [.int .u64 sk, .int .u64 mk]
  h : At W gh 32 G
  f : HFits W (fun b => b < w.heap.size) m d tok
  p : Rd W W.heap.size Ap mp pay
  q : Rd W W.heap.size Ab mb bb
  b : Below w.heap.size w W
theorem TlS.below {w : World} {gk gh : Nat} {sk mk : Int} {G : List Value} {m : HN} {d : Sl} {tok : List Int} {Ap : Option Addr} {mp : Nat} {pay : List Int} {Ab : Option Addr} {mb : Nat} {bb : List Int} {W W' : World} (h : TlS w gk gh sk mk G m d tok Ap mp pay Ab mb bb W) (k : Below W.heap.size W W') : TlS w gk gh sk mk G m d tok Ap mp pay Ab mb bb W' :=
  ⟨h.k.below k h.k.lt, h.h.below k h.h.lt, h.f.below k, (h.p.below k).more k.size, (h.q.below k).more k.size, h.b.trans (k.mono h.b.size)⟩
set_option maxRecDepth 100000 in
set_option maxHeartbeats 8000000 in
theorem ptells9_walk (secret other : Int) (S T F W' : Int) (tA : Option Addr) (tn tc : Nat) (bs0 : List Int) (ph : Bool) (n largest : Int) (has : Bool) (Ap : Option Addr) (np cp : Nat) (pay0 : List Int) (Ab : Option Addr) (nb cb : Nat) (bb0 : List Int) (at_ turn : Int) (w : World)
    (s0 : 0 ≤ secret) (s1 : secret < 18446744073709551616) (o0 : 0 ≤ other) (o1 : other < 18446744073709551616) (hx : XIn w S T F W' tA tn tc bs0) (n0 : 0 ≤ n) (n1 : n < 18446744073709551616) (l0 : 0 ≤ largest) (l1 : largest < 18446744073709551616) (hip : InRow w Ap np cp pay0) (hib : InRow w Ab nb cb bb0) (a0 : -9223372036854775808 ≤ at_) (a1 : at_ ≤ 9223372036854775807) (t0 : 0 ≤ turn) (t1 : turn < 256) :
    Calls Tryz.prog 3 #[.int .u64 secret, .int .u64 other, .agg (xL S T F W' ⟨tA, tn, tc⟩ ph).toArray, .int .u64 n, .int .u64 largest, .bool has, .slice Ap np cp, .slice Ab nb cb, .int .i64 at_, .int .u8 turn] w (FrPost (.bool true) w) := by
  obtain ⟨i0, hi, hz0, hz1, hz2⟩ := info_parts u8_info
  have HOF := Lib.hid (fun W => rof_keys secret W s0 s1)
  have HOO := Lib.hid (fun W => rof_keys other W o0 o1)
  have hsk := keyedS_bd secret [115, 101, 97, 108]
  have hmk := keyedS_bd secret [109, 97, 115, 107]
  have hso := keyedS_bd other [115, 101, 97, 108]
  have hmo := keyedS_bd other [109, 97, 115, 107]
  unfold keysL at HOF HOO
  obtain ⟨sk, hskE⟩ : ∃ x, keyedS secret [115, 101, 97, 108] = x := ⟨_, rfl⟩
  obtain ⟨mk, hmkE⟩ : ∃ x, keyedS secret [109, 97, 115, 107] = x := ⟨_, rfl⟩
  obtain ⟨so, hsoE⟩ : ∃ x, keyedS other [115, 101, 97, 108] = x := ⟨_, rfl⟩
  obtain ⟨mo, hmoE⟩ : ∃ x, keyedS other [109, 97, 115, 107] = x := ⟨_, rfl⟩
  rw [hskE, hmkE] at HOF
  rw [hsoE, hmoE] at HOO
  rw [hskE] at hsk
  rw [hmkE] at hmk
  rw [hsoE] at hso
  rw [hmoE] at hmo
  have hcp := fun W => cut_any Ap np cp 100 W hip.2.1 hip.2.2.1 (by omega) (hip.cutk 100).2.2.2.2.2
  have hcb := fun W => cut_any Ab nb cb 80 W hib.2.1 hib.2.2.1 (by omega) (hib.cutk 80).2.2.2.2.2
  obtain ⟨hrp, hp1, _, hp2, hp3, _⟩ := hip.cutk 100
  obtain ⟨hrb, hq1, _, hq2, hq3, _⟩ := hib.cutk 80
  have hAb := hib.2.2.2
  obtain ⟨pay1, hpd⟩ : ∃ x, pay0.take (min np 100) = x := ⟨_, rfl⟩
  obtain ⟨bb, hbd⟩ : ∃ x, bb0.take (min nb 80) = x := ⟨_, rfl⟩
  rw [hpd] at hrp
  rw [hbd] at hrb
  obtain ⟨mp, hmp⟩ : ∃ x, min np 100 = x := ⟨_, rfl⟩
  obtain ⟨mb, hmb⟩ : ∃ x, min nb 80 = x := ⟨_, rfl⟩
  rw [hmp] at hrp hcp hp1 hp2
  rw [hmb] at hrb hcb hq1 hq2
  have HCP := Lib.hid hcp
  have HCB := Lib.hid hcb
  have HK1 := Lib.hid (fun W (h : InD W (fun b => b < w.heap.size) ⟨tA, tn, tc⟩ bs0) => khead_any (fun b => b < w.heap.size) S T F W' ⟨tA, tn, tc⟩ ph bs0 W h hx.sa hx.ta hx.fa hx.wa)
  have hI1 := Lib.hid hx.row.inDl
  clear hskE hmkE hsoE hmoE hpd hbd hmp hmb hcp hcb hip hib hx
  obtain ⟨XL, hXL⟩ : ∃ l, xL S T F W' ⟨tA, tn, tc⟩ ph = l := ⟨_, rfl⟩
  have hXl : XL.length = 6 := by rw [← hXL]; rfl
  rw [hXL] at HK1 ⊢
  have HXL := Lib.hid hXl
  clear hXL hXl
  have hX0 : At (w.alloc (.cells XL.toArray 25)) w.heap.size 25 XL := At.new w 25 XL
  have hb0 : Below w.heap.size w (w.alloc (.cells XL.toArray 25)) := (Below.refl _ _).alloc (Nat.le_refl _) _
  obtain ⟨w1, hw1⟩ : ∃ x, w.alloc (.cells XL.toArray 25) = x := ⟨_, rfl⟩
  rw [hw1] at hX0 hb0
  go_enter Tryz.func3, Tryz.ntmps3
  go_wp2_with fail
  refine (HOF.out w1).mono ?_
  rintro e w3 ⟨rfl, hb3⟩
  have hX3 := hX0.below hb3 hX0.lt
  have hb4 := hb0.trans (hb3.mono hb0.size)
  have hs3 := hb4.size
  have hK3 : At (w3.alloc (.cells #[.int .u64 sk, .int .u64 mk] 27)) w3.heap.size 27 [.int .u64 sk, .int .u64 mk] := At.new w3 27 [.int .u64 sk, .int .u64 mk]
  have hX4 := hX3.alloc (.cells #[.int .u64 sk, .int .u64 mk] 27)
  have hb5 := hb4.alloc hs3 (.cells #[.int .u64 sk, .int .u64 mk] 27)
  obtain ⟨w4, hw4⟩ : ∃ x, w3.alloc (.cells #[.int .u64 sk, .int .u64 mk] 27) = x := ⟨_, rfl⟩
  rw [hw4] at hK3 hX4 hb5
  clear hX0 hX3 hb0 hb3 hb4 hw1
  go_wp2_with (first | ((with_reducible refine at_ldx ?_); refine wpList_load_at w.heap.size _ XL _ (by rfl) hX4 Tryz.underlying25 rfl (by rw [HXL.out]; exact x6_info) ?_) | fail)
  refine (HK1.out w4 (hI1.out.below_ hb5)).mono ?_
  rintro e w5 ⟨m, d, tok, rfl, hF5, hr1, hb6⟩
  have hK5 := hK3.below hb6 hK3.lt
  have hb7 := hb5.trans (hb6.mono hb5.size)
  have hwf := hF5.wf
  have htk := hF5.dt.rd.byt
  have hk1 := hright_parts _ _ hr1
  have hN5 : At (w5.alloc (.cells #[.int .i64 0, .int .u8 0, .int .u8 0, .int .u8 0, .int .u8 0, .int .u8 0, .int .u8 0, .int .u8 0, .int .u8 0, .int .u8 0, .int .u8 0, .int .u8 0, .int .u8 0, .int .u8 0, .int .u8 0, .int .u8 0, .int .u8 0, .slice none 0 0, .int .i64 0, .bool false] 32)) w5.heap.size 32 (hdL .zero .nil) := At.new w5 32 (hdL .zero .nil)
  have hbz : Below w5.heap.size w5 (w5.alloc (.cells #[.int .i64 0, .int .u8 0, .int .u8 0, .int .u8 0, .int .u8 0, .int .u8 0, .int .u8 0, .int .u8 0, .int .u8 0, .int .u8 0, .int .u8 0, .int .u8 0, .int .u8 0, .int .u8 0, .int .u8 0, .int .u8 0, .int .u8 0, .slice none 0 0, .int .i64 0, .bool false] 32)) := (Below.refl _ _).alloc (Nat.le_refl _) _
  have hvv : hdV m d = .agg (hdL m d).toArray := rfl
  rw [hvv]
  have hGo : (hdL m d).all (·.oneCell') = true := rfl
  obtain ⟨G, hG⟩ : ∃ G, hdL m d = G := ⟨_, rfl⟩
  have hGl : G.length = 20 := by rw [← hG]; rfl
  rw [hG] at hvv hGo ⊢
  have HVV := Lib.hid hvv
  have HGL := Lib.hid hGl
  clear hvv hG hGl hX4 hb5 hb6 hK3 hI1 HK1 hw4
  go_wp2_with (first | ((with_reducible refine at_sth ?_); refine st_hd w5.heap.size (hdL .zero .nil) G (by rfl) (by rfl) hN5 rfl HGL.out hGo ?_; intro w6 hA6 hk6) | fail)
  have hbs := hk6.below hbz hbz.size (by intro j hj; subst hj; exact Nat.le_refl _)
  have hb8 := hb7.trans (hbs.mono hb7.size)
  have hT : TlS w w3.heap.size w5.heap.size sk mk G m d tok Ap mp pay1 Ab mb bb w6 := ⟨hK5.below hbs hK5.lt, hA6, hF5.below hbs, (hrp.below hb8).more hb8.size, (hrb.below hb8).more hb8.size, hb8⟩
  clear hbs hbz hk6 hN5 hA6 hK5 hF5 hrp hrb hb7 hb8
  refine (HCP.out w6).mono ?_
  rintro e w7 ⟨rfl, rfl⟩
  have hsm2 := small_any n w6 n0 n1
  have hsb := smallS_bd n n0
  obtain ⟨N, hsn⟩ : ∃ s, smallS n = s := ⟨_, rfl⟩
  rw [hsn] at hsm2 hsb
  have HSM := Lib.hid hsm2
  clear hsm2 hsn
  go_wp2_with fail
  refine HSM.out.mono ?_
  rintro e w8 ⟨rfl, hb9⟩
  have hT := hT.below hb9
  clear hb9 HSM
  have HPR := Lib.hid (fun W (h : HFits W (fun b => b < w.heap.size) m d tok) (h' : Rd W W.heap.size Ap mp pay1) => protects_any (fun b => b < w.heap.size) sk mk N m d tok Ap mp cp pay1 W h h' hp2 hp3 (by omega) hsk.1 hsk.2 hmk.1 hmk.2 (by omega) (by omega) (by omega) (by omega))
  have HOB := Lib.hid (fun W (h : Rd W W.heap.size Ab mb bb) => opens9_any sk mk largest has Ab mb cb bb W h (by omega) hq2 hq3 hAb hsk.1 hsk.2 hmk.1 hmk.2 l0 l1)
  have hkk : kL sk mk = [.int .u64 sk, .int .u64 mk] := rfl
  have hvvx := HVV.out
  rw [hkk, hvvx] at HPR
  rw [hkk] at HOB
  clear hvvx
  go_wp2_with fail
  have hT := hT.below ((Below.refl _ _).drew)
  obtain ⟨Y, hY⟩ : ∃ x, w8.drew = x := ⟨_, rfl⟩
  rw [hY] at hT
  refine wp_region_held_drew (S := (TlS w w3.heap.size w5.heap.size sk mk G m d tok Ap mp pay1 Ab mb bb)) (by kernel_rfl) (by rw [hY]; exact hT) (fun hHeld => ?_)
  rw [hY] at hHeld ⊢
  clear hY
  refine tkq 0 (some 34) (v := ?_) rfl ?_ (by assumption) ?_
  rotate_left
  · refine yl_any 27 (.tmp 21) ?_ w3.heap.size 0 ?_ [.int .u64 sk, .int .u64 mk] _ ?_ Tryz.underlying27 rfl ?_ ?_
    · rfl
    · rfl
    · intro w hSw; exact hSw.k.rangeAt
    · exact rkt_info
    · rfl
  simp only [Act.put, List.setIfInBounds_toArray, List.set_cons_zero, List.set_cons_succ]
  refine tkq 1 (some 35) (v := ?_) rfl ?_ (by assumption) ?_
  rotate_left
  · refine yl_any 32 (.tmp 22) ?_ w5.heap.size 0 ?_ G _ ?_ Tryz.underlying32 rfl ?_ ?_
    · rfl
    · rfl
    · intro w hSw; exact hSw.h.rangeAt
    · rw [HGL.out]; exact hd_info
    · rfl
  simp only [Act.put, List.setIfInBounds_toArray, List.set_cons_zero, List.set_cons_succ]
  refine tkq 2 (some 36) (v := ?_) rfl (Or.inl ⟨by rfl, ?_⟩) (by assumption) ?_
  rotate_left
  · intro w hSw; (try dsimp only at hSw); go_simp; first | done | (with_reducible rfl)
  simp only [Act.put, List.setIfInBounds_toArray, List.set_cons_zero, List.set_cons_succ]
  refine tkq 3 (some 37) (v := ?_) rfl (Or.inl ⟨by rfl, ?_⟩) (by assumption) ?_
  rotate_left
  · intro w hSw; (try dsimp only at hSw); go_simp; first | done | (with_reducible rfl)
  simp only [Act.put, List.setIfInBounds_toArray, List.set_cons_zero, List.set_cons_succ]
  refine wpAnyH_ready (rs := [4]) (by kernel_rfl) (by simp) ?_
  refine AllReadyH.cons rfl (fun K hK => ?_) AllReadyH.nil
  go_simp
  go_wp2_with (go_at_call 8; refine (HPR.out _ hT.f hT.p).mono ?_; rintro e V1 ⟨rfl, hbc⟩)
  have hT := hT.below hbc
  clear hbc
  refine hK.out _ _ (hT) (fun hHeld => ?_)
  clear hK K
  refine tkq 5 (some 39) (v := ?_) rfl (Or.inl ⟨by rfl, ?_⟩) (by assumption) ?_
  rotate_left
  · intro w hSw; (try dsimp only at hSw); go_simp; first | done | (with_reducible rfl)
  simp only [Act.put, List.setIfInBounds_toArray, List.set_cons_zero, List.set_cons_succ]
  refine tkq 6 (some 40) (v := ?_) rfl (Or.inl ⟨by rfl, ?_⟩) (by assumption) ?_
  rotate_left
  · intro w hSw; (try dsimp only at hSw); go_simp; first | done | (with_reducible rfl)
  simp only [Act.put, List.setIfInBounds_toArray, List.set_cons_zero, List.set_cons_succ]
  refine tkq 7 (some 41) (v := ?_) rfl ?_ (by assumption) ?_
  rotate_left
  · refine yl_any 27 (.tmp 21) ?_ w3.heap.size 0 ?_ [.int .u64 sk, .int .u64 mk] _ ?_ Tryz.underlying27 rfl ?_ ?_
    · rfl
    · rfl
    · intro w hSw; exact hSw.k.rangeAt
    · exact rkt_info
    · rfl
  simp only [Act.put, List.setIfInBounds_toArray, List.set_cons_zero, List.set_cons_succ]
  refine tkq 8 (some 42) (v := ?_) rfl (Or.inl ⟨by rfl, ?_⟩) (by assumption) ?_
  rotate_left
  · intro w hSw; (try dsimp only at hSw); go_simp; first | done | (with_reducible rfl)
  simp only [Act.put, List.setIfInBounds_toArray, List.set_cons_zero, List.set_cons_succ]
  refine tkq 10 (some 44) (v := ?_) rfl (Or.inl ⟨by rfl, ?_⟩) (by assumption) ?_
  rotate_left
  · intro w hSw; (try dsimp only at hSw); go_simp; first | done | (with_reducible rfl)
  simp only [Act.put, List.setIfInBounds_toArray, List.set_cons_zero, List.set_cons_succ]
  refine tkq 11 (some 45) (v := ?_) rfl (Or.inl ⟨by rfl, ?_⟩) (by assumption) ?_
  rotate_left
  · intro w hSw; (try dsimp only at hSw); go_simp; first | done | (with_reducible rfl)
  simp only [Act.put, List.setIfInBounds_toArray, List.set_cons_zero, List.set_cons_succ]
  refine wpAnyH_ready (rs := [9]) (by kernel_rfl) (by simp) ?_
  refine AllReadyH.cons rfl (fun K hK => ?_) AllReadyH.nil
  go_simp
  go_wp2_with (go_at_call 6; refine (HCB.out _).mono ?_; rintro e V2 ⟨rfl, rfl⟩)
  refine hK.out _ _ (hT) (fun hHeld => ?_)
  clear hK K
  refine wpAnyH_ready (rs := [12]) (by kernel_rfl) (by simp) ?_
  refine AllReadyH.cons rfl (fun K hK => ?_) AllReadyH.nil
  go_simp
  go_wp2_with (go_at_call 9; refine (HOB.out _ hT.q).mono ?_; rintro e V3 ⟨rfl, hbc⟩)
  have hT := hT.below hbc
  clear hbc
  refine hK.out _ _ (hT) (fun hHeld => ?_)
  clear hK K
  refine tkq 13 (some 47) (v := ?_) rfl (Or.inl ⟨by rfl, ?_⟩) (by assumption) ?_
  rotate_left
  · intro w hSw; (try dsimp only at hSw); go_simp; first | done | (with_reducible rfl)
  simp only [Act.put, List.setIfInBounds_toArray, List.set_cons_zero, List.set_cons_succ]
  refine tkq 14 (some 48) (v := ?_) rfl (Or.inl ⟨by rfl, ?_⟩) (by assumption) ?_
  rotate_left
  · intro w hSw; (try dsimp only at hSw); go_simp; first | done | (with_reducible rfl)
  simp only [Act.put, List.setIfInBounds_toArray, List.set_cons_zero, List.set_cons_succ]
  refine wpAnyH_done (by kernel_rfl) ?_ _
  go_wp2_with fail
  have hT := hT.below ((Below.refl _ _).drew)
  obtain ⟨Z7, hZ7⟩ : ∃ x, V3.drew = x := ⟨_, rfl⟩
  rw [hZ7] at hT
  have kc := fun (w : World) (C : Array Value) (n c : Nat) => Lib.run_convert_bytes_const (P := Tryz.prog) w 23 5 C n c Tryz.underlying23 Tryz.underlying5
  have hpyl := hT.p.1
  have hpyb := hT.p.2.1
  have hpl7 : ([102, 111, 117, 114] ++ pay1).length = 4 + mp := by rw [List.length_append, hpyl]; rfl
  have hpb7 : Byt ([102, 111, 117, 114] ++ pay1) := Byt.app (by intro x hx; simp at hx; omega) hpyb
  have hpay0 : ∃ p, [102, 111, 117, 114] ++ pay1 = p := ⟨_, rfl⟩
  obtain ⟨pay, hpay⟩ := hpay0
  rw [hpay] at hpl7 hpb7
  have HPY := Lib.hid hpay
  obtain ⟨np', hnp'⟩ : ∃ l, 4 + mp = l := ⟨_, rfl⟩
  rw [hnp'] at hpl7
  have HNP := Lib.hid hnp'
  have hnpb : 4 ≤ np' ∧ np' ≤ 104 := by omega
  have hm1 := may_ok N m tok pay hr1 (by omega) (by omega) (by omega)
  have hl1 := pack_len sk mk N m tok pay hm1
  have HRP := Lib.hid (fun W A c (h : HFits W (fun b => b < w.heap.size) m d tok) (h' : Rd W W.heap.size A np' pay) (x1 : np' ≤ c) (x2 : c ≤ maxLen) => (show Calls Tryz.prog 10 #[.agg (kL sk mk).toArray, hdV m d, .int .u64 N, .slice A np' c] W (fun e w' => ∃ v, e = .returned (.tuple #[v, .bool true]) ∧ Own w' W.heap.size 5 v (packS sk mk N m tok pay) ∧ Below W.heap.size W w') from
    (rprotect_any _ sk mk N m d tok A np' c pay W h h' x1 x2 (by omega) hsk.1 hsk.2 hmk.1 hmk.2 (by omega) (by omega) (by omega) (by omega)).mono (fun e w' hh => by unfold RProPost at hh; rw [if_pos hm1, hm1] at hh; exact hh)))
  have hvvx := HVV.out
  rw [hkk, hvvx] at HRP
  obtain ⟨X, hX⟩ : ∃ X, packS sk mk N m tok pay = X := ⟨_, rfl⟩
  rw [hX] at HRP hl1
  obtain ⟨nx, hnx⟩ : ∃ l, X.length = l := ⟨_, rfl⟩
  rw [hnx] at hl1
  have HNX := Lib.hid hnx
  clear hvvx hX hnx hnp' hpay hm1
  refine wp_region_held_drew (S := (TlS w w3.heap.size w5.heap.size sk mk G m d tok Ap mp pay1 Ab mb bb)) (by kernel_rfl) (by rw [hZ7]; exact hT) (fun hHeld => ?_)
  rw [hZ7] at hHeld ⊢
  clear hZ7
  refine tkq 0 (some 50) (v := ?_) rfl ?_ (by assumption) ?_
  rotate_left
  · refine yl_any 27 (.tmp 21) ?_ w3.heap.size 0 ?_ [.int .u64 sk, .int .u64 mk] _ ?_ Tryz.underlying27 rfl ?_ ?_
    · rfl
    · rfl
    · intro w hSw; exact hSw.k.rangeAt
    · exact rkt_info
    · rfl
  simp only [Act.put, List.setIfInBounds_toArray, List.set_cons_zero, List.set_cons_succ]
  refine tkq 1 (some 51) (v := ?_) rfl ?_ (by assumption) ?_
  rotate_left
  · refine yl_any 32 (.tmp 22) ?_ w5.heap.size 0 ?_ G _ ?_ Tryz.underlying32 rfl ?_ ?_
    · rfl
    · rfl
    · intro w hSw; exact hSw.h.rangeAt
    · rw [HGL.out]; exact hd_info
    · rfl
  simp only [Act.put, List.setIfInBounds_toArray, List.set_cons_zero, List.set_cons_succ]
  refine tkq 2 (some 52) (v := ?_) rfl (Or.inl ⟨by rfl, ?_⟩) (by assumption) ?_
  rotate_left
  · intro w hSw; (try dsimp only at hSw); go_simp; first | done | (with_reducible rfl)
  simp only [Act.put, List.setIfInBounds_toArray, List.set_cons_zero, List.set_cons_succ]
  refine tkq 5 (some 55) (v := ?_) rfl (Or.inl ⟨by rfl, ?_⟩) (by assumption) ?_
  rotate_left
  · intro w hSw; (try dsimp only at hSw); go_simp; first | done | (with_reducible rfl)
  simp only [Act.put, List.setIfInBounds_toArray, List.set_cons_zero, List.set_cons_succ]
  refine wpAnyH_ready (rs := [3]) (by kernel_rfl) (by simp) ?_
  refine AllReadyH.cons rfl (fun K hK => ?_) AllReadyH.nil
  go_simp
  go_wp2_with (fail)
  have hbl : Below Z7.heap.size Z7 (Z7.alloc (.cells #[.int .u8 102, .int .u8 111, .int .u8 117, .int .u8 114] 5)) := (Below.refl _ _).alloc (Nat.le_refl _) _
  have hT3 := hT.below hbl
  clear hbl
  refine hK.out _ _ (hT3) (fun hHeld => ?_)
  clear hK K
  refine wpAnyH_ready (rs := [4]) (by kernel_rfl) (by simp) ?_
  refine AllReadyH.cons rfl (fun K hK => ?_) AllReadyH.nil
  go_simp
  go_wp2_with (fail)
  have hbm : Below Z7.heap.size Z7 (Z7.alloc (.cells #[.int .u8 102, .int .u8 111, .int .u8 117, .int .u8 114] 5 (4, 5))) := (Below.refl _ _).alloc (Nat.le_refl _) _
  have hrm : Rd (Z7.alloc (.cells #[.int .u8 102, .int .u8 111, .int .u8 117, .int .u8 114] 5 (4, 5))) (Z7.heap.size + 1) (some ⟨Z7.heap.size, 0, none⟩) 4 [102, 111, 117, 114] := Rd.litm Z7 5 [102, 111, 117, 114] (by intro x hx; simp at hx; omega) #[.int .u8 102, .int .u8 111, .int .u8 117, .int .u8 114] (4, 5) rfl
  have hsm : (Z7.alloc (.cells #[.int .u8 102, .int .u8 111, .int .u8 117, .int .u8 114] 5 (4, 5))).heap.size = Z7.heap.size + 1 := by simp
  rw [← hsm] at hrm
  have hT4 := hT.below hbm
  obtain ⟨W4, hW4⟩ : ∃ x, Z7.alloc (.cells #[.int .u8 102, .int .u8 111, .int .u8 117, .int .u8 114] 5 (4, 5)) = x := ⟨_, rfl⟩
  rw [hW4] at hbm hrm hT4 ⊢
  clear hsm hW4 hbm hT3
  refine hK.out _ _ (hT4) (fun hHeld => ?_)
  clear hK K
  refine wpAnyH_ready (rs := [6]) (by kernel_rfl) (by simp) ?_
  refine AllReadyH.cons rfl (fun K hK => ?_) AllReadyH.nil
  refine step_app_lit (by rfl) (.tmp 54) (.tmp 55) 23 (by rfl) 5 i0 Tryz.underlying23 hi hz0 hz1 hz2 Z7.heap.size 4 W4.heap.size W4.heap.size [102, 111, 117, 114] (by rfl) hrm (by omega) Ap mp cp pay1 (by rfl) hT4.p (Nat.le_refl _) (by omega) ?_
  intro A7 c7 w7 x1 x2 x3 hr7 hb7
  rw [HPY.out, HNP.out] at hr7
  rw [HNP.out] at x1 ⊢
  have hT5 := hT4.below hb7
  clear hrm hb7 hT4
  refine hK.out _ _ (hT5) (fun hHeld => ?_)
  clear hK K
  refine wpAnyH_ready (rs := [7]) (by kernel_rfl) (by simp) ?_
  refine AllReadyH.cons rfl (fun K hK => ?_) AllReadyH.nil
  go_simp
  go_wp2_with (go_at_call 10; refine (HRP.out _ A7 c7 hT5.f hr7 x1 x2).mono ?_; rintro e w8r ⟨v8, rfl, ho8, hb8⟩)
  have hT6 := hT5.below hb8
  refine hK.out _ _ (hT6) (fun hHeld => ?_)
  clear hK K
  refine tkq 8 (some 49) (v := ?_) rfl (Or.inl ⟨by rfl, ?_⟩) (by assumption) ?_
  rotate_left
  · intro w hSw; (try dsimp only at hSw); go_simp; first | done | (with_reducible rfl)
  simp only [Act.put, List.setIfInBounds_toArray, List.set_cons_zero, List.set_cons_succ]
  refine tkq 9 (some 58) (v := ?_) rfl (Or.inl ⟨by rfl, ?_⟩) (by assumption) ?_
  rotate_left
  · intro w hSw; (try dsimp only at hSw); go_simp; first | done | (with_reducible rfl)
  simp only [Act.put, List.setIfInBounds_toArray, List.set_cons_zero, List.set_cons_succ]
  refine tkq 10 (some 59) (v := ?_) rfl (Or.inl ⟨by rfl, ?_⟩) (by assumption) ?_
  rotate_left
  · intro w hSw; (try dsimp only at hSw); go_simp; first | done | (with_reducible rfl)
  simp only [Act.put, List.setIfInBounds_toArray, List.set_cons_zero, List.set_cons_succ]
  refine tkq 11 (some 23) (v := ?_) rfl (Or.inl ⟨by rfl, ?_⟩) (by assumption) ?_
  rotate_left
  · intro w hSw; (try dsimp only at hSw); go_simp; first | done | (with_reducible rfl)
  simp only [Act.put, List.setIfInBounds_toArray, List.set_cons_zero, List.set_cons_succ]
  refine tkq 12 (some 24) (v := ?_) rfl (Or.inl ⟨by rfl, ?_⟩) (by assumption) ?_
  rotate_left
  · intro w hSw; (try dsimp only at hSw); go_simp; first | done | (with_reducible rfl)
  simp only [Act.put, List.setIfInBounds_toArray, List.set_cons_zero, List.set_cons_succ]
  refine wpAnyH_done (by kernel_rfl) ?_ _
  have hlt57 := hT5.k.lt
  have hsb57 := hT5.b.size
  clear hT hT5 hr7 hHeld kc HRP HPR HPY HNP hb8
  obtain ⟨g8, c8, _, rfl, _, _, _, hgb8, y1, y2⟩ := ho8.place (by rw [HNX.out]; omega)
  rw [HNX.out] at ho8 y1 ⊢
  obtain ⟨A9, c9, hv9, _, _, hX8⟩ := ho8.open_n nx HNX.out
  injection hv9 with hv9 _ hv9c
  subst hv9; subst hv9c
  have HRM := Lib.hid (roomy_any (some ⟨g8, 0, none⟩) nx c8 X 165 w8r hX8 (by omega) (by omega) (by omega))
  go_wp2_with fail
  refine HRM.out.mono ?_
  rintro e w9 ⟨v9, rfl, ho9, hb9⟩
  have hfl : (X ++ List.replicate 80 (165 : Int)).length = nx + 80 := by rw [List.length_append, HNX.out, List.length_replicate]
  obtain ⟨gf, cf, _, rfl, _, _, _, hgbf, f1, f2⟩ := ho9.place (by omega)
  rw [hfl] at ho9 f1 ⊢
  obtain ⟨A10, c10, hv10, _, _, hfu⟩ := ho9.open_n (nx + 80) hfl
  injection hv10 with hv10 _ hv10c
  subst hv10; subst hv10c
  have hT7 := hT6.below hb9
  have ho10 := ho8.below hb9 (Nat.le_refl _)
  have hX9 := (hX8.below hb9).more hb9.size
  have HOX := Lib.hid (fun sk' mk' W A c lg hh bs (hl : bs.length = nx) (h : Rd W W.heap.size A nx bs) (h1 : nx ≤ c) (h2 : c ≤ maxLen) (h3 : A = none → c = 0) (e0 : 0 ≤ sk') (e1 : sk' < 18446744073709551616) (e2 : 0 ≤ mk') (e3 : mk' < 18446744073709551616) (e4 : 0 ≤ lg) (e5 : lg < 18446744073709551616) => (show Calls Tryz.prog 9 #[.agg #[.int .u64 sk', .int .u64 mk'], .slice A nx c, .int .u64 lg, .bool hh] W (FrPost (.bool true) W) from opens9_any sk' mk' lg hh A nx c bs W h (by omega) h1 h2 h3 e0 e1 e2 e3 e4 e5))
  have hcf : nx ≤ cf := by omega
  have hcfI : (nx : Int) ≤ (cf : Int) := by omega
  clear hT6 ho8 hX8 ho9 hb9 HRM
  go_wp2_with fail
  have hT7 := hT7.below ((Below.refl _ _).drew)
  have ho10 := ho10.drew
  have hX9 := hX9.drew
  have hfu := hfu.drew
  have hsd : w9.drew.heap.size = w9.heap.size := rfl
  obtain ⟨Y9, hY9⟩ : ∃ x, w9.drew = x := ⟨_, rfl⟩
  rw [← hsd] at hX9 hfu
  rw [hY9] at hT7 ho10 hX9 hfu
  clear hsd
  refine wp_region_held_drew (S := (TlS w w3.heap.size w5.heap.size sk mk G m d tok Ap mp pay1 Ab mb bb)) (by kernel_rfl) (by rw [hY9]; exact hT7) (fun hHeld => ?_)
  rw [hY9] at hHeld ⊢
  clear hY9
  refine tkq 0 (some 64) (v := ?_) rfl ?_ (by assumption) ?_
  rotate_left
  · refine yl_any 27 (.tmp 21) ?_ w3.heap.size 0 ?_ [.int .u64 sk, .int .u64 mk] _ ?_ Tryz.underlying27 rfl ?_ ?_
    · rfl
    · rfl
    · intro w hSw; exact hSw.k.rangeAt
    · exact rkt_info
    · rfl
  simp only [Act.put, List.setIfInBounds_toArray, List.set_cons_zero, List.set_cons_succ]
  refine tkq 1 (some 65) (v := ?_) rfl (Or.inl ⟨by rfl, ?_⟩) (by assumption) ?_
  rotate_left
  · intro w hSw; (try dsimp only at hSw); go_simp; first | done | (with_reducible rfl)
  simp only [Act.put, List.setIfInBounds_toArray, List.set_cons_zero, List.set_cons_succ]
  refine tkq 2 (some 66) (v := ?_) rfl (Or.inl ⟨by rfl, ?_⟩) (by assumption) ?_
  rotate_left
  · intro w hSw; (try dsimp only at hSw); go_simp; first | done | (with_reducible rfl)
  simp only [Act.put, List.setIfInBounds_toArray, List.set_cons_zero, List.set_cons_succ]
  refine tkq 3 (some 67) (v := ?_) rfl (Or.inl ⟨by rfl, ?_⟩) (by assumption) ?_
  rotate_left
  · intro w hSw; (try dsimp only at hSw); go_simp; first | done | (with_reducible rfl)
  simp only [Act.put, List.setIfInBounds_toArray, List.set_cons_zero, List.set_cons_succ]
  refine tkq 4 (some 68) (v := ?_) rfl (Or.inl ⟨by rfl, ?_⟩) (by assumption) ?_
  rotate_left
  · intro w hSw; (try dsimp only at hSw); go_simp; first | done | (with_reducible rfl)
  simp only [Act.put, List.setIfInBounds_toArray, List.set_cons_zero, List.set_cons_succ]
  refine tkq 5 (some 69) (v := ?_) rfl (Or.inl ⟨by rfl, ?_⟩) (by assumption) ?_
  rotate_left
  · intro w hSw; (try dsimp only at hSw); go_simp; first | done | (with_reducible rfl)
  simp only [Act.put, List.setIfInBounds_toArray, List.set_cons_zero, List.set_cons_succ]
  refine tkq 6 (some 70) (v := ?_) rfl (Or.inl ⟨by rfl, ?_⟩) (by assumption) ?_
  rotate_left
  · intro w hSw; (try dsimp only at hSw); go_simp; first | done | (with_reducible rfl)
  simp only [Act.put, List.setIfInBounds_toArray, List.set_cons_zero, List.set_cons_succ]
  refine wpAnyH_ready (rs := [7]) (by kernel_rfl) (by simp) ?_
  refine AllReadyH.cons rfl (fun K hK => ?_) AllReadyH.nil
  go_simp
  go_wp2_with (go_at_call 9; refine (HOX.out sk mk _ (some ⟨gf, 0, none⟩) cf largest has X HNX.out (by have h := hfu.cutTo (m := nx) (by omega); rw [List.take_append_of_le_length (by rw [HNX.out]; exact Nat.le_refl _), List.take_of_length_le (by rw [HNX.out]; exact Nat.le_refl _)] at h; exact h) hcf f2 (by intro h; cases h) hsk.1 hsk.2 hmk.1 hmk.2 l0 l1).mono ?_; rintro e U7 ⟨rfl, hbc⟩)
  have hT7 := hT7.below hbc
  have ho10 := ho10.below hbc (Nat.le_refl _)
  have hX9 := (hX9.below hbc).more hbc.size
  have hfu := (hfu.below hbc).more hbc.size
  clear hbc
  refine hK.out _ _ (hT7) (fun hHeld => ?_)
  clear hK K
  refine tkq 8 (some 72) (v := ?_) rfl (Or.inl ⟨by rfl, ?_⟩) (by assumption) ?_
  rotate_left
  · intro w hSw; (try dsimp only at hSw); go_simp; first | done | (with_reducible rfl)
  simp only [Act.put, List.setIfInBounds_toArray, List.set_cons_zero, List.set_cons_succ]
  refine tkq 9 (some 73) (v := ?_) rfl (Or.inl ⟨by rfl, ?_⟩) (by assumption) ?_
  rotate_left
  · intro w hSw; (try dsimp only at hSw); go_simp; first | done | (with_reducible rfl)
  simp only [Act.put, List.setIfInBounds_toArray, List.set_cons_zero, List.set_cons_succ]
  refine tkq 10 (some 74) (v := ?_) rfl ?_ (by assumption) ?_
  rotate_left
  · refine yl_any 27 (.tmp 21) ?_ w3.heap.size 0 ?_ [.int .u64 sk, .int .u64 mk] _ ?_ Tryz.underlying27 rfl ?_ ?_
    · rfl
    · rfl
    · intro w hSw; exact hSw.k.rangeAt
    · exact rkt_info
    · rfl
  simp only [Act.put, List.setIfInBounds_toArray, List.set_cons_zero, List.set_cons_succ]
  refine tkq 11 (some 75) (v := ?_) rfl (Or.inl ⟨by rfl, ?_⟩) (by assumption) ?_
  rotate_left
  · intro w hSw; (try dsimp only at hSw); go_simp; first | done | (with_reducible rfl)
  simp only [Act.put, List.setIfInBounds_toArray, List.set_cons_zero, List.set_cons_succ]
  refine tkq 12 (some 76) (v := ?_) rfl (Or.inl ⟨by rfl, ?_⟩) (by assumption) ?_
  rotate_left
  · intro w hSw; (try dsimp only at hSw); go_simp; first | done | (with_reducible rfl)
  simp only [Act.put, List.setIfInBounds_toArray, List.set_cons_zero, List.set_cons_succ]
  refine wpAnyH_ready (rs := [13]) (by kernel_rfl) (by simp) ?_
  refine AllReadyH.cons rfl (fun K hK => ?_) AllReadyH.nil
  go_simp
  go_wp2_with (go_at_call 9; refine (HOX.out sk mk _ (some ⟨g8, 0, none⟩) c8 N true X HNX.out hX9 y1 y2 (by intro h; cases h) hsk.1 hsk.2 hmk.1 hmk.2 (by omega) (by omega)).mono ?_; rintro e U13 ⟨rfl, hbc⟩)
  have hT7 := hT7.below hbc
  have ho10 := ho10.below hbc (Nat.le_refl _)
  have hX9 := (hX9.below hbc).more hbc.size
  have hfu := (hfu.below hbc).more hbc.size
  clear hbc
  refine hK.out _ _ (hT7) (fun hHeld => ?_)
  clear hK K
  refine tkq 14 (some 78) (v := ?_) rfl (Or.inl ⟨by rfl, ?_⟩) (by assumption) ?_
  rotate_left
  · intro w hSw; (try dsimp only at hSw); go_simp; first | done | (with_reducible rfl)
  simp only [Act.put, List.setIfInBounds_toArray, List.set_cons_zero, List.set_cons_succ]
  refine tkq 15 (some 79) (v := ?_) rfl (Or.inl ⟨by rfl, ?_⟩) (by assumption) ?_
  rotate_left
  · intro w hSw; (try dsimp only at hSw); go_simp; first | done | (with_reducible rfl)
  simp only [Act.put, List.setIfInBounds_toArray, List.set_cons_zero, List.set_cons_succ]
  refine tkq 16 (some 80) (v := ?_) rfl (Or.inl ⟨by rfl, ?_⟩) (by assumption) ?_
  rotate_left
  · intro w hSw; (try dsimp only at hSw); go_simp; first | done | (with_reducible rfl)
  simp only [Act.put, List.setIfInBounds_toArray, List.set_cons_zero, List.set_cons_succ]
  refine tkq 17 (some 81) (v := ?_) rfl (Or.inl ⟨by rfl, ?_⟩) (by assumption) ?_
  rotate_left
  · intro w hSw; (try dsimp only at hSw); go_simp; first | done | (with_reducible rfl)
  simp only [Act.put, List.setIfInBounds_toArray, List.set_cons_zero, List.set_cons_succ]
  refine tkq 19 (some 83) (v := ?_) rfl (Or.inl ⟨by rfl, ?_⟩) (by assumption) ?_
  rotate_left
  · intro w hSw; (try dsimp only at hSw); go_simp; first | done | (with_reducible rfl)
  simp only [Act.put, List.setIfInBounds_toArray, List.set_cons_zero, List.set_cons_succ]
  refine tkq 20 (some 84) (v := ?_) rfl (Or.inl ⟨by rfl, ?_⟩) (by assumption) ?_
  rotate_left
  · intro w hSw; (try dsimp only at hSw); go_simp; first | done | (with_reducible rfl)
  simp only [Act.put, List.setIfInBounds_toArray, List.set_cons_zero, List.set_cons_succ]
  refine tkq 21 (some 85) (v := ?_) rfl (Or.inl ⟨by rfl, ?_⟩) (by assumption) ?_
  rotate_left
  · intro w hSw; (try dsimp only at hSw); go_simp; first | done | (with_reducible rfl)
  simp only [Act.put, List.setIfInBounds_toArray, List.set_cons_zero, List.set_cons_succ]
  refine wpAnyH_ready (rs := [18]) (by kernel_rfl) (by simp) ?_
  refine AllReadyH.cons rfl (fun K hK => ?_) AllReadyH.nil
  go_simp
  go_wp2_with (go_at_call 4; refine (HOO.out _).mono ?_; rintro e U18 ⟨rfl, hbc⟩)
  have hT7 := hT7.below hbc
  have ho10 := ho10.below hbc (Nat.le_refl _)
  have hX9 := (hX9.below hbc).more hbc.size
  have hfu := (hfu.below hbc).more hbc.size
  clear hbc
  refine hK.out _ _ (hT7) (fun hHeld => ?_)
  clear hK K
  refine wpAnyH_ready (rs := [22]) (by kernel_rfl) (by simp) ?_
  refine AllReadyH.cons rfl (fun K hK => ?_) AllReadyH.nil
  go_simp
  go_wp2_with (go_at_call 9; refine (HOX.out so mo _ (some ⟨g8, 0, none⟩) c8 largest has X HNX.out hX9 y1 y2 (by intro h; cases h) hso.1 hso.2 hmo.1 hmo.2 l0 l1).mono ?_; rintro e U22 ⟨rfl, hbc⟩)
  have hT7 := hT7.below hbc
  have ho10 := ho10.below hbc (Nat.le_refl _)
  have hX9 := (hX9.below hbc).more hbc.size
  have hfu := (hfu.below hbc).more hbc.size
  clear hbc
  refine hK.out _ _ (hT7) (fun hHeld => ?_)
  clear hK K
  refine tkq 23 (some 87) (v := ?_) rfl (Or.inl ⟨by rfl, ?_⟩) (by assumption) ?_
  rotate_left
  · intro w hSw; (try dsimp only at hSw); go_simp; first | done | (with_reducible rfl)
  simp only [Act.put, List.setIfInBounds_toArray, List.set_cons_zero, List.set_cons_succ]
  refine tkq 24 (some 88) (v := ?_) rfl (Or.inl ⟨by rfl, ?_⟩) (by assumption) ?_
  rotate_left
  · intro w hSw; (try dsimp only at hSw); go_simp; first | done | (with_reducible rfl)
  simp only [Act.put, List.setIfInBounds_toArray, List.set_cons_zero, List.set_cons_succ]
  refine tkq 25 (some 89) (v := ?_) rfl (Or.inl ⟨by rfl, ?_⟩) (by assumption) ?_
  rotate_left
  · intro w hSw; (try dsimp only at hSw); go_simp; first | done | (with_reducible rfl)
  simp only [Act.put, List.setIfInBounds_toArray, List.set_cons_zero, List.set_cons_succ]
  refine tkq 26 (some 90) (v := ?_) rfl (Or.inl ⟨by rfl, ?_⟩) (by assumption) ?_
  rotate_left
  · intro w hSw; (try dsimp only at hSw); go_simp; first | done | (with_reducible rfl)
  simp only [Act.put, List.setIfInBounds_toArray, List.set_cons_zero, List.set_cons_succ]
  refine tkq 27 (some 91) (v := ?_) rfl (Or.inl ⟨by rfl, ?_⟩) (by assumption) ?_
  rotate_left
  · intro w hSw; (try dsimp only at hSw); go_simp; first | done | (with_reducible rfl)
  simp only [Act.put, List.setIfInBounds_toArray, List.set_cons_zero, List.set_cons_succ]
  refine wpAnyH_ready (rs := [28]) (by kernel_rfl) (by simp) ?_
  refine AllReadyH.cons rfl (fun K hK => ?_) AllReadyH.nil
  go_simp
  go_wp2_with (go_at_call 12; refine (intact_any (some ⟨gf, 0, none⟩) (some ⟨g8, 0, none⟩) nx cf c8 X 165 U22 _ _ hfu hX9 (by omega) f2 (by omega)).mono ?_; rintro e U28 ⟨rfl, dd, rfl⟩)
  have hT8 := hT7.below (belowN (Below.refl _ _) dd)
  have ho11 : Own (U22.drewN dd) w7.heap.size 5 (.slice (some ⟨g8, 0, none⟩) nx c8) X := ho10
  refine hK.out _ _ (hT8) (fun hHeld => ?_)
  clear hK K
  refine tkq 29 (some 93) (v := ?_) rfl (Or.inl ⟨by rfl, ?_⟩) (by assumption) ?_
  rotate_left
  · intro w hSw; (try dsimp only at hSw); go_simp; first | done | (with_reducible rfl)
  simp only [Act.put, List.setIfInBounds_toArray, List.set_cons_zero, List.set_cons_succ]
  refine tkq 30 (some 94) (v := ?_) rfl (Or.inl ⟨by rfl, ?_⟩) (by assumption) ?_
  rotate_left
  · intro w hSw; (try dsimp only at hSw); go_simp; first | done | (with_reducible rfl)
  simp only [Act.put, List.setIfInBounds_toArray, List.set_cons_zero, List.set_cons_succ]
  refine wpAnyH_done (by kernel_rfl) ?_ _
  obtain ⟨w12, hw12⟩ : ∃ x, U22.drewN dd = x := ⟨_, rfl⟩
  rw [hw12] at hT8 ho11 ⊢
  clear hT7 ho10 hX9 hfu hw12 hHeld
  have hWI := Lib.hid (fun W => within_any at_ 0 ((nx : Int) - 1) W a0 a1 (by omega) (by omega) (by omega))
  have hwb := withinS_bd at_ 0 ((nx : Int) - 1) (by omega)
  have hwk : withinS at_ 0 ((nx : Int) - 1) = ((withinS at_ 0 ((nx : Int) - 1)).toNat : Int) := by omega
  obtain ⟨kk, hkk2⟩ : ∃ x, (withinS at_ 0 ((nx : Int) - 1)).toNat = x := ⟨_, rfl⟩
  rw [hkk2] at hwk
  rw [hwk] at hWI hwb
  have hkb : kk < nx := by omega
  have hkbI : (kk : Int) < (nx : Int) := by omega
  have hkc8 : kk < c8 := by omega
  obtain ⟨y, hy⟩ : ∃ y, X.getD kk 0 = y := ⟨_, rfl⟩
  have hxk : X[kk]? = some y := by rw [← hy, List.getD_eq_getElem?_getD, List.getElem?_eq_getElem (by rw [HNX.out]; exact hkb)]; rfl
  have HXK := Lib.hid hxk
  clear hwk hkk2 hy hxk
  go_wp2_with fail
  refine (hWI.out w12).mono ?_
  rintro e w13 ⟨rfl, rfl⟩
  obtain ⟨hcy, hg12, hgb12, hfz⟩ := own_cell ho11 HNX.out kk y HXK.out
  obtain ⟨V9, hV9⟩ : ∃ v, bits BinOp.xor IntKind.u8 y turn = v := ⟨_, rfl⟩
  have hVb : 0 ≤ V9 ∧ V9 < 256 := by rw [← hV9]; exact u8_bits_bd _ _ _
  have hS := own_set ho11 HNX.out (by omega) kk V9 hVb
  have hkS := (Kept.refl (· = g8) w12).setAt kk (.int .u8 V9)
  obtain ⟨w14, hw14⟩ : ∃ x, w12.setCell ⟨g8, kk, none⟩ (.int .u8 V9) = x := ⟨_, rfl⟩
  rw [hw14] at hS hkS
  have hK14 := hT8.k.kept hkS (by have := hT8.k.lt; omega)
  have hb14 := hkS.below hT8.b hT8.b.size (by intro j hj; subst hj; omega)
  have hlX : (X.set kk V9).length = nx := by rw [List.length_set, HNX.out]
  obtain ⟨A14, c14, hv14, _, _, hX14⟩ := hS.open_n nx hlX
  injection hv14 with hv14 _ hv14c
  subst hv14; subst hv14c
  have HLX := Lib.hid hlX
  clear hT8 ho11 hS hkS hgb12 hlX
  go_wp2_with (first | ((with_reducible refine at_ldrk ?_); refine ld_rkt w3.heap.size [.int .u64 sk, .int .u64 mk] (by rfl) hK14 rfl ?_) | fail)
  refine (HOX.out sk mk w14 (some ⟨g8, 0, none⟩) c8 N true (X.set kk V9) HLX.out hX14 y1 y2 (by intro h; cases h) hsk.1 hsk.2 hmk.1 hmk.2 (by omega) (by omega)).mono ?_
  rintro e w15 ⟨rfl, hb15⟩
  have hb16 := hb14.trans (hb15.mono hb14.size)
  go_wp2_with fail
  refine (known9_any w15).mono ?_
  rintro e w16 ⟨rfl, hb17⟩
  go_wp2_with fail
  go_ret
  exact ⟨rfl, hb16.trans (hb17.mono hb16.size)⟩
theorem ptells9_law (secret other : Int) (S T F W' : Int) (tA : Option Addr) (tn tc : Nat) (bs0 : List Int) (ph : Bool) (n largest : Int) (has : Bool) (Ap : Option Addr) (np cp : Nat) (pay0 : List Int) (Ab : Option Addr) (nb cb : Nat) (bb0 : List Int) (at_ turn : Int) (w : World)
    (hs : (Lit.int .u64 secret).wf = true) (ho : (Lit.int .u64 other).wf = true) (hx : XIn w S T F W' tA tn tc bs0) (hn : (Lit.int .u64 n).wf = true) (hl : (Lit.int .u64 largest).wf = true) (hip : InRow w Ap np cp pay0) (hib : InRow w Ab nb cb bb0) (ha : (Lit.int .i64 at_).wf = true) (ht : (Lit.int .u8 turn).wf = true) :
    Calls Tryz.prog 3 #[.int .u64 secret, .int .u64 other, .agg (xL S T F W' ⟨tA, tn, tc⟩ ph).toArray, .int .u64 n, .int .u64 largest, .bool has, .slice Ap np cp, .slice Ab nb cb, .int .i64 at_, .int .u8 turn] w fun e w'' => e = .returned (.bool true) ∧ Below w.heap.size w w'' :=
  ptells9_walk secret other S T F W' tA tn tc bs0 ph n largest has Ap np cp pay0 Ab nb cb bb0 at_ turn w (bounds_u64 hs).1 (by have := (bounds_u64 hs).2; omega) (bounds_u64 ho).1 (by have := (bounds_u64 ho).2; omega) hx (bounds_u64 hn).1 (by have := (bounds_u64 hn).2; omega) (bounds_u64 hl).1 (by have := (bounds_u64 hl).2; omega) hip hib (bounds_i64 ha).1 (bounds_i64 ha).2 (bounds_u8 ht).1 (by have := (bounds_u8 ht).2; omega)
end Go.Proofs.YtijjiifekilapaaGreat
