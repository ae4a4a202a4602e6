/-
  packet.Protect.
-/
import Derived.Test.YtehdilgnlhhjdaaJb
import Derived.Test.YtehdilgnlhhjdaaHback
namespace Go.Proofs.Ytehdilgnlhhjdaa
set_option linter.unusedVariables false
set_option linter.unusedSimpArgs false
open Go.RowKit Go.ChangeShapes Go.WideShapes Go.Deep
theorem kt_info : (Try.prog.info? 40).map (·.size) = some 2 := by kernel_rfl
/-- Keys and a head in their blocks. -/
structure HkS (gk gh : Nat) (K L : List Value) (key wd : Int) (W : World) : Prop where
  k : At W gk 40 K
  h : At W gh 30 L
  ck : W.cell? ⟨gk, 0, none⟩ = some (.int .u64 key)
  cw : W.cell? ⟨gh, 18, none⟩ = some (.int .i64 wd)
theorem HkS.kept {S : Nat → Prop} {gk gh : Nat} {K L : List Value} {key wd : Int} {W W' : World} (h : HkS gk gh K L key wd W) (k : Kept S W W') (h1 : ¬ S gk) (h2 : ¬ S gh) : HkS gk gh K L key wd W' :=
  ⟨(k.block _ h.k.lt h1).trans h.k, (k.block _ h.h.lt h2).trans h.h, by rw [k.cell (p := ⟨gk, 0, none⟩) h.k.lt h1]; exact h.ck, by rw [k.cell (p := ⟨gh, 18, none⟩) h.h.lt h2]; exact h.cw⟩
theorem HkS.below {gk gh : Nat} {K L : List Value} {key wd : Int} {W W' : World} (h : HkS gk gh K L key wd W) (k : Below W.heap.size W W') : HkS gk gh K L key wd W' := h.kept (Kept.of_below k (fun _ => False)) (fun x => x) (fun x => x)
theorem HkS.belowB {gk gh : Nat} {K L : List Value} {key wd : Int} {B : Nat} {W W' : World} (h : HkS gk gh K L key wd W) (k : Below B W W') (h1 : gk < B) (h2 : gh < B) : HkS gk gh K L key wd W' :=
  ⟨h.k.below k h1, h.h.below k h2, by rw [k.cell (p := ⟨gk, 0, none⟩) h1]; exact h.ck, by rw [k.cell (p := ⟨gh, 18, none⟩) h2]; exact h.cw⟩
/-- What Protect answers. -/
def ProPost (sk mk n : Int) (m : HN) (tok pay : List Int) (w : World) (e : Ending) (w' : World) : Prop :=
  ∃ v, e = .returned (.tuple #[v, .int .i64 (if mayB n m tok pay = true then 0 else 1)]) ∧ Own w' w.heap.size 5 v (if mayB n m tok pay = true then packS sk mk n m tok pay else []) ∧ Below w.heap.size w w'
theorem ProPost.no {sk mk n : Int} {m : HN} {tok pay : List Int} {w w' : World} (h : mayB n m tok pay = false) (hb : Below w.heap.size w w') : ProPost sk mk n m tok pay w (.returned (.tuple #[.slice none 0 0, .int .i64 1])) w' := by
  unfold ProPost; rw [h]; exact ⟨_, rfl, Own.none_ _ _ _, hb⟩
theorem ProPost.yes {sk mk n : Int} {m : HN} {tok pay : List Int} {w w' : World} {v : Value} (h : mayB n m tok pay = true) (ho : Own w' w.heap.size 5 v (packS sk mk n m tok pay)) (hb : Below w.heap.size w w') : ProPost sk mk n m tok pay w (.returned (.tuple #[v, .int .i64 0])) w' := by
  unfold ProPost; rw [if_pos h, if_pos h]; exact ⟨_, rfl, ho, hb⟩
theorem cutS_bd_ (n k : Int) : 0 ≤ cutS n k ∧ cutS n k < 4294967296 := by
  unfold cutS
  rcases pW_four k with h | h | h | h
  · rw [(win_of k).1 h]; omega
  · rw [(win_of k).2.1 h]; omega
  · rw [(win_of k).2.2.1 h]; omega
  · rw [(win_of k).2.2.2 h]; omega
set_option maxRecDepth 100000 in
set_option maxHeartbeats 4000000 in
theorem protect_no (P : Nat → Prop) (sk mk n : Int) (m : HN) (d : Sl) (tok : List Int) (Ap : Option Addr) (np cp : Nat) (pay : List Int) (w : World) (hf : HFits w P m d tok) (hp : Rd w w.heap.size Ap np pay) (hp1 : np ≤ cp) (hp2 : cp ≤ maxLen) (hp3 : np ≤ 1000000) (s0 : 0 ≤ sk) (s1 : sk < 18446744073709551616) (k0 : 0 ≤ mk) (k1 : mk < 18446744073709551616) (n0 : 0 ≤ n) (n1 : n < 18446744073709551616) (w0 : 0 ≤ m.w) (w4 : m.w ≤ 1000) (h : hrightB m tok.length = false ∨ 16383 < m.w + np + 8) :
    Calls Try.prog 15 #[.agg (kL sk mk).toArray, hdV m d, .int .u64 n, .slice Ap np cp] w (ProPost sk mk n m tok pay w) := by
  have hmay : mayB n m tok pay = false := by
    unfold mayB
    rcases h with h | h
    · rw [h]; rfl
    · rw [decide_eq_false (show ¬ ((hencS m tok (m.w + pay.length + 8)).length : Int) + (m.w + pay.length + 8) ≤ 512 by rw [hp.1]; omega), Bool.and_false]
  have hc3 := hp2
  unfold maxLen at hc3
  have hpl := hp.1
  obtain ⟨k, hk⟩ : ∃ k : Nat, m.w = k := ⟨m.w.toNat, by omega⟩
  have hk4 : k ≤ 1000 := by omega
  have hK0 : At (w.alloc (.cells (kL sk mk).toArray 40)) w.heap.size 40 (kL sk mk) := At.new w 40 _
  have hb0 : Below w.heap.size w (w.alloc (.cells (kL sk mk).toArray 40)) := (Below.refl _ _).alloc (Nat.le_refl _) _
  obtain ⟨K, hK⟩ : ∃ K, kL sk mk = K := ⟨_, rfl⟩
  have hKk : K[0]? = some (.int .u64 sk) := by rw [← hK]; rfl
  have hKl : K.length = 2 := by rw [← hK]; rfl
  rw [hK] at hK0 hb0 ⊢
  obtain ⟨w1, hw1⟩ : ∃ x, w.alloc (.cells K.toArray 40) = x := ⟨_, rfl⟩
  rw [hw1] at hK0 hb0
  have hH0 : At (w1.alloc (.cells (hdL m d).toArray 30)) w1.heap.size 30 (hdL m d) := At.new w1 30 _
  have hK1 := hK0.alloc (.cells (hdL m d).toArray 30)
  have hb1 := hb0.alloc hb0.size (.cells (hdL m d).toArray 30)
  have hlt0 := hK0.lt
  have HE := Lib.hid (fun W (hW : HFits W P m d tok) => henc_no P m d tok ((k : Int) + np + 8) W hW (by rcases h with h | h; exact .inl h; right; right; omega))
  have hvv : hdV m d = .agg (hdL m d).toArray := rfl
  rw [hvv] at HE ⊢
  obtain ⟨L, hL⟩ : ∃ L, hdL m d = L := ⟨_, rfl⟩
  have hLl : L.length = 20 := by rw [← hL]; rfl
  have hL18 : L[18]? = some (.int .i64 (k : Int)) := by rw [← hL, ← hk]; rfl
  rw [hL] at hH0 hK1 hb1 HE ⊢
  obtain ⟨w2, hw2⟩ : ∃ x, w1.alloc (.cells L.toArray 30) = x := ⟨_, rfl⟩
  rw [hw2] at hH0 hK1 hb1
  have hS : HkS w.heap.size w1.heap.size K L sk (k : Int) w2 := ⟨hK1, hH0, by rw [hK1.cell 0, hKk], by rw [hH0.cell 18, hL18]⟩
  have hf2 := hf.below hb1
  have hp4 := hp.below hb1
  have hlt2 := hS.h.lt
  have hltk := hS.k.lt
  have HS := Lib.hid hS
  have HKL := Lib.hid hKl
  have HLL := Lib.hid hLl
  have hcw := hS.cw
  clear hvv hL hK hKk hL18 hH0 hK1 hK0 hb0 hKl

  go_enter Try.func15, Try.ntmps15
  go_wp2_with (first | ((with_reducible refine at_ldh ?_); refine ld_hd w1.heap.size L (by rfl) hS.h HLL.out ?_) | fail)
  refine (HE.out _ hf2).mono ?_
  rintro e w3 ⟨rfl, hb3⟩
  have hb4 := hb1.trans (hb3.mono hb1.size)
  have hS3 := hS.below hb3
  have hcw3 := hS3.cw
  go_wp2_with fail
  refine bodyPost_ret (results_tmp2 rfl _ _ _) rfl ?_
  exact ProPost.no hmay hb4
set_option maxRecDepth 100000 in
set_option maxHeartbeats 4000000 in
theorem protect_bad (P : Nat → Prop) (sk mk n : Int) (m : HN) (d : Sl) (tok : List Int) (Ap : Option Addr) (np cp : Nat) (pay : List Int) (w : World) (hf : HFits w P m d tok) (hp : Rd w w.heap.size Ap np pay) (hp1 : np ≤ cp) (hp2 : cp ≤ maxLen) (hp3 : np ≤ 1000000) (s0 : 0 ≤ sk) (s1 : sk < 18446744073709551616) (k0 : 0 ≤ mk) (k1 : mk < 18446744073709551616) (n0 : 0 ≤ n) (n1 : n < 18446744073709551616) (w0 : 0 ≤ m.w) (w4 : m.w ≤ 1000) (h : hrightB m tok.length = true) (h2 : m.w + np + 8 ≤ 16383) (hmay : mayB n m tok pay = false) :
    Calls Try.prog 15 #[.agg (kL sk mk).toArray, hdV m d, .int .u64 n, .slice Ap np cp] w (ProPost sk mk n m tok pay w) := by
  obtain ⟨_, _, r1, r4, r32, _⟩ := hright_parts _ _ h
  have hcase : 4611686018427387903 < n ∨ (n ≤ 4611686018427387903 ∧ m.w + pay.length < 4) ∨ (n ≤ 4611686018427387903 ∧ 4 ≤ m.w + pay.length ∧ 512 < ((hencS m tok (m.w + pay.length + 8)).length : Int) + (m.w + pay.length + 8)) := by
    unfold mayB at hmay
    rw [h] at hmay
    simp only [Bool.true_and, Bool.and_eq_false_iff, decide_eq_false_iff_not] at hmay
    omega
  have hbd := henc_bd m tok (m.w + pay.length + 8) r32
  have hc3 := hp2
  unfold maxLen at hc3
  have hpl := hp.1
  obtain ⟨k, hk⟩ : ∃ k : Nat, m.w = k := ⟨m.w.toNat, by omega⟩
  have hk4 : k ≤ 1000 := by omega
  have hK0 : At (w.alloc (.cells (kL sk mk).toArray 40)) w.heap.size 40 (kL sk mk) := At.new w 40 _
  have hb0 : Below w.heap.size w (w.alloc (.cells (kL sk mk).toArray 40)) := (Below.refl _ _).alloc (Nat.le_refl _) _
  obtain ⟨K, hK⟩ : ∃ K, kL sk mk = K := ⟨_, rfl⟩
  have hKk : K[0]? = some (.int .u64 sk) := by rw [← hK]; rfl
  have hKl : K.length = 2 := by rw [← hK]; rfl
  rw [hK] at hK0 hb0 ⊢
  obtain ⟨w1, hw1⟩ : ∃ x, w.alloc (.cells K.toArray 40) = x := ⟨_, rfl⟩
  rw [hw1] at hK0 hb0
  have hH0 : At (w1.alloc (.cells (hdL m d).toArray 30)) w1.heap.size 30 (hdL m d) := At.new w1 30 _
  have hK1 := hK0.alloc (.cells (hdL m d).toArray 30)
  have hb1 := hb0.alloc hb0.size (.cells (hdL m d).toArray 30)
  have hlt0 := hK0.lt
  have HE := Lib.hid (fun W (hW : HFits W P m d tok) => henc_yes P m d tok ((k : Int) + np + 8) W hW h (by omega) (by omega))
  rw [hpl, hk] at hcase hbd
  obtain ⟨E, hE⟩ : ∃ E, hencS m tok ((k : Int) + np + 8) = E := ⟨_, rfl⟩
  rw [hE] at HE hcase hbd
  obtain ⟨at_, hat⟩ : ∃ a, E.length = a := ⟨_, rfl⟩
  rw [hat] at hcase hbd
  have hvv : hdV m d = .agg (hdL m d).toArray := rfl
  rw [hvv] at HE ⊢
  obtain ⟨L, hL⟩ : ∃ L, hdL m d = L := ⟨_, rfl⟩
  have hLl : L.length = 20 := by rw [← hL]; rfl
  have hL18 : L[18]? = some (.int .i64 (k : Int)) := by rw [← hL, ← hk]; rfl
  rw [hL] at hH0 hK1 hb1 HE ⊢
  obtain ⟨w2, hw2⟩ : ∃ x, w1.alloc (.cells L.toArray 30) = x := ⟨_, rfl⟩
  rw [hw2] at hH0 hK1 hb1
  have hS : HkS w.heap.size w1.heap.size K L sk (k : Int) w2 := ⟨hK1, hH0, by rw [hK1.cell 0, hKk], by rw [hH0.cell 18, hL18]⟩
  have hf2 := hf.below hb1
  have hp4 := hp.below hb1
  have hlt2 := hS.h.lt
  have hltk := hS.k.lt
  have HS := Lib.hid hS
  have HKL := Lib.hid hKl
  have HLL := Lib.hid hLl
  have hcw := hS.cw
  clear hvv hL hK hKk hL18 hH0 hK1 hK0 hb0 hKl

  have HAT := Lib.hid hat
  clear hE hat
  rcases hcase with hc | ⟨hc1, hc2⟩ | ⟨hc1, hc2, hc4⟩
  · have g1 : decide (4611686018427387903 < n) = true := by simp; omega
    go_enter Try.func15, Try.ntmps15
    go_wp2_with (first | ((with_reducible refine at_ldh ?_); refine ld_hd w1.heap.size L (by rfl) hS.h HLL.out ?_) | fail)
    refine (HE.out _ hf2).mono ?_
    rintro e w3 ⟨v3, rfl, ho3, hb3⟩
    have hb4 := hb1.trans (hb3.mono hb1.size)
    have hS3 := hS.below hb3
    have hcw3 := hS3.cw
    obtain ⟨A3, c3, rfl, q1, q2, _⟩ := ho3.open_n at_ HAT.out
    go_wp2_with fail
    refine bodyPost_ret (results_tmp2 rfl _ _ _) rfl ?_
    exact ProPost.no hmay hb4
  · have g1 : decide (4611686018427387903 < n) = false := by simp; omega
    have g2 : decide ((k : Int) + np < 4) = true := by simp; omega
    go_enter Try.func15, Try.ntmps15
    go_wp2_with (first | ((with_reducible refine at_ldh ?_); refine ld_hd w1.heap.size L (by rfl) hS.h HLL.out ?_) | fail)
    refine (HE.out _ hf2).mono ?_
    rintro e w3 ⟨v3, rfl, ho3, hb3⟩
    have hb4 := hb1.trans (hb3.mono hb1.size)
    have hS3 := hS.below hb3
    have hcw3 := hS3.cw
    obtain ⟨A3, c3, rfl, q1, q2, _⟩ := ho3.open_n at_ HAT.out
    go_wp2_with fail
    refine bodyPost_ret (results_tmp2 rfl _ _ _) rfl ?_
    exact ProPost.no hmay hb4
  · have g1 : decide (4611686018427387903 < n) = false := by simp; omega
    have g2 : decide ((k : Int) + np < 4) = false := by simp; omega
    have g3 : decide (512 < (at_ : Int) + ((k : Int) + np + 8)) = true := by simp; omega
    go_enter Try.func15, Try.ntmps15
    go_wp2_with (first | ((with_reducible refine at_ldh ?_); refine ld_hd w1.heap.size L (by rfl) hS.h HLL.out ?_) | fail)
    refine (HE.out _ hf2).mono ?_
    rintro e w3 ⟨v3, rfl, ho3, hb3⟩
    have hb4 := hb1.trans (hb3.mono hb1.size)
    have hS3 := hS.below hb3
    have hcw3 := hS3.cw
    obtain ⟨A3, c3, rfl, q1, q2, _⟩ := ho3.open_n at_ HAT.out
    go_wp2_with fail
    refine bodyPost_ret (results_tmp2 rfl _ _ _) rfl ?_
    exact ProPost.no hmay hb4
set_option maxRecDepth 100000 in
set_option maxHeartbeats 8000000 in
theorem protect_yes (P : Nat → Prop) (sk mk n : Int) (m : HN) (d : Sl) (tok : List Int) (Ap : Option Addr) (np cp : Nat) (pay : List Int) (w : World) (hf : HFits w P m d tok) (hp : Rd w w.heap.size Ap np pay) (hp1 : np ≤ cp) (hp2 : cp ≤ maxLen) (hp3 : np ≤ 1000000) (s0 : 0 ≤ sk) (s1 : sk < 18446744073709551616) (k0 : 0 ≤ mk) (k1 : mk < 18446744073709551616) (n0 : 0 ≤ n) (n1 : n < 18446744073709551616) (w0 : 0 ≤ m.w) (w4 : m.w ≤ 1000) (hmay : mayB n m tok pay = true) :
    Calls Try.prog 15 #[.agg (kL sk mk).toArray, hdV m d, .int .u64 n, .slice Ap np cp] w (ProPost sk mk n m tok pay w) := by
  obtain ⟨i0, hi, hz0, hz1, hz2⟩ := info_parts u8_info
  have hcase : hrightB m tok.length = true ∧ n ≤ 4611686018427387903 ∧ 4 ≤ m.w + pay.length ∧ ((hencS m tok (m.w + pay.length + 8)).length : Int) + (m.w + pay.length + 8) ≤ 512 := by
    have h := hmay
    unfold mayB at h
    simp only [Bool.and_eq_true, decide_eq_true_eq] at h
    exact ⟨h.1.1.1, h.1.1.2, h.1.2, h.2⟩
  obtain ⟨h, hn2, hw4, hall⟩ := hcase
  obtain ⟨_, _, r1, r4, r32, _⟩ := hright_parts _ _ h
  have hbd := henc_bd m tok (m.w + pay.length + 8) r32
  have hwf := hf.wf
  have hcb := cutS_bd_ n m.w
  have hpk : packS sk mk n m tok pay = turnB (bareS sk n m tok pay) (maskS mk (samS (bareS sk n m tok pay) (hencS m tok (m.w + pay.length + 8)).length)) (hencS m tok (m.w + pay.length + 8)).length m.w.toNat (mbits m.s) := rfl
  have hbare : bareS sk n m tok pay = hencS m tok (m.w + pay.length + 8) ++ beS m.w.toNat (cutS n m.w) ++ sealS sk n (hencS m tok (m.w + pay.length + 8) ++ beS m.w.toNat (cutS n m.w)) pay := rfl
  have hypay := hp.2.1
  have hc3 := hp2
  unfold maxLen at hc3
  have hpl := hp.1
  obtain ⟨k, hk⟩ : ∃ k : Nat, m.w = k := ⟨m.w.toNat, by omega⟩
  have hk4 : k ≤ 1000 := by omega
  have hK0 : At (w.alloc (.cells (kL sk mk).toArray 40)) w.heap.size 40 (kL sk mk) := At.new w 40 _
  have hb0 : Below w.heap.size w (w.alloc (.cells (kL sk mk).toArray 40)) := (Below.refl _ _).alloc (Nat.le_refl _) _
  obtain ⟨K, hK⟩ : ∃ K, kL sk mk = K := ⟨_, rfl⟩
  have hKk : K[0]? = some (.int .u64 sk) := by rw [← hK]; rfl
  have hKl : K.length = 2 := by rw [← hK]; rfl
  rw [hK] at hK0 hb0 ⊢
  obtain ⟨w1, hw1⟩ : ∃ x, w.alloc (.cells K.toArray 40) = x := ⟨_, rfl⟩
  rw [hw1] at hK0 hb0
  have hH0 : At (w1.alloc (.cells (hdL m d).toArray 30)) w1.heap.size 30 (hdL m d) := At.new w1 30 _
  have hK1 := hK0.alloc (.cells (hdL m d).toArray 30)
  have hb1 := hb0.alloc hb0.size (.cells (hdL m d).toArray 30)
  have hlt0 := hK0.lt
  have hkn : m.w.toNat = k := by omega
  have HE := Lib.hid (fun W (hW : HFits W P m d tok) => henc_yes P m d tok ((k : Int) + np + 8) W hW h (by omega) (by omega))
  have HT1 := Lib.hid (fun W B g nn c a bs ms (ho : Own W B 5 (.slice (some ⟨g, 0, none⟩) nn c) bs) hl ha hn hnm hms hmb hcn hcm => turn_any (g := g) B nn c a bs ms m d W ho hl ha hn hnm hms hmb hwf w0 r4 hcn hcm)
  rw [hpl, hk] at hall hw4 hbd hpk hbare
  have hkn' : ((k : Nat) : Int).toNat = k := by omega
  rw [hkn'] at hpk hbare
  rw [hkn] at HT1
  rw [hk] at hcb
  obtain ⟨E, hE⟩ : ∃ E, hencS m tok ((k : Int) + np + 8) = E := ⟨_, rfl⟩
  rw [hE] at HE hall hbd hpk hbare
  obtain ⟨C, hC⟩ : ∃ C, cutS n k = C := ⟨_, rfl⟩
  have HC := Lib.hid (fun W => (show Calls Try.prog 34 #[.int .u64 n, .int .i64 (k : Int)] W fun e w' => e = .returned (.int .u32 C) ∧ W = w' by rw [← hC]; exact pcut_any n k W n0 n1 (by omega) (by omega)))
  rw [hC] at hcb hbare
  have hcl := beS_len k C
  obtain ⟨D, hD⟩ : ∃ D, E ++ beS k C = D := ⟨_, rfl⟩
  rw [hD] at hbare
  have hDl : D.length = E.length + k := by rw [← hD, List.length_append, hcl]
  obtain ⟨X, hX⟩ : ∃ X, sealS sk n D pay = X := ⟨_, rfl⟩
  have hXl : X.length = np + 8 := by rw [← hX, sealS_len, hpl]
  rw [hX] at hbare
  obtain ⟨Bb, hBb⟩ : ∃ x, bareS sk n m tok pay = x := ⟨_, rfl⟩
  rw [hBb] at hpk hbare
  have hBl : Bb.length = E.length + k + (np + 8) := by rw [hbare, List.length_append, hXl, hDl]
  obtain ⟨at_, hat⟩ : ∃ a, E.length = a := ⟨_, rfl⟩
  rw [hat] at hall hbd hpk hDl hBl
  have hML : (maskS mk (samS Bb at_)).length = 5 := rfl
  have hMB : Byt (maskS mk (samS Bb at_)) := (b8_byt _).take 5
  have HS1 := Lib.hid (fun W A c (hA : Rd W W.heap.size A (at_ + k) D) (h1 : at_ + k ≤ c) (h2 : c ≤ maxLen) (hP : Rd W W.heap.size Ap np pay) => (show Calls Try.prog 35 #[.int .u64 sk, .int .u64 n, .slice A (at_ + k) c, .slice Ap np cp] W (fun e w' => ∃ v, e = .returned v ∧ Own w' W.heap.size 5 v X ∧ Below W.heap.size W w') from by rw [← hX]; exact seal_any sk n A (at_ + k) c D Ap np cp pay W hA hP h1 h2 hp1 hp2 (by omega) s0 s1 n0 n1))
  have HM1 := Lib.hid (fun W A c (hA : Rd W W.heap.size A (at_ + k + (np + 8)) Bb) (h1 : at_ + k + (np + 8) ≤ c) (h2 : c ≤ maxLen) => maskof_any sk mk A (at_ + k + (np + 8)) c at_ Bb W hA h1 h2 (by omega) k0 k1)
  rw [hK] at HM1
  obtain ⟨ms, hms⟩ : ∃ x, maskS mk (samS Bb at_) = x := ⟨_, rfl⟩
  rw [hms] at hML hMB HM1 hpk
  have hvv : hdV m d = .agg (hdL m d).toArray := rfl
  rw [hvv] at HE ⊢
  rw [hvv] at HT1
  obtain ⟨L, hL⟩ : ∃ L, hdL m d = L := ⟨_, rfl⟩
  have hLl : L.length = 20 := by rw [← hL]; rfl
  have hL18 : L[18]? = some (.int .i64 (k : Int)) := by rw [← hL, ← hk]; rfl
  rw [hL] at hH0 hK1 hb1 HE ⊢
  rw [hL] at HT1
  obtain ⟨w2, hw2⟩ : ∃ x, w1.alloc (.cells L.toArray 30) = x := ⟨_, rfl⟩
  rw [hw2] at hH0 hK1 hb1
  have hS : HkS w.heap.size w1.heap.size K L sk (k : Int) w2 := ⟨hK1, hH0, by rw [hK1.cell 0, hKk], by rw [hH0.cell 18, hL18]⟩
  have hf2 := hf.below hb1
  have hp4 := hp.below hb1
  have hlt2 := hS.h.lt
  have hltk := hS.k.lt
  have HS := Lib.hid hS
  have HKL := Lib.hid hKl
  have HLL := Lib.hid hLl
  have hcw := hS.cw
  clear hvv hL hK hKk hL18 hH0 hK1 hK0 hb0 hKl

  have HAT := Lib.hid hat
  have HD := Lib.hid hD
  have HDL := Lib.hid hDl
  have HBL := Lib.hid hBl
  have HBR := Lib.hid hbare
  have HXL := Lib.hid hXl
  have HHE := Lib.hid hE
  clear hE hat hD hDl hBl hbare hXl hms hC hX hBb hcl hkn hkn'
  have HPK := Lib.hid hpk
  have HMY := Lib.hid hmay
  have HHF := Lib.hid hf2
  clear hpk hmay
  have g1 : decide (4611686018427387903 < n) = false := by simp; omega
  have g2 : decide ((k : Int) + np < 4) = false := by simp; omega
  have g3 : decide (512 < (at_ : Int) + ((k : Int) + np + 8)) = false := by simp; omega
  go_enter Try.func15, Try.ntmps15
  go_wp2_with (first | ((with_reducible refine at_ldh ?_); refine ld_hd w1.heap.size L (by rfl) hS.h HLL.out ?_) | fail)
  refine (HE.out _ hf2).mono ?_
  rintro e w3 ⟨v3, rfl, ho3, hb3⟩
  have hb4 := hb3
  have hS3 := hS.below hb3
  have hp5 := (hp4.more hb1.size).below hb3
  have hcw3 := hS3.cw
  obtain ⟨A3, c3, rfl, q1, q2, _⟩ := ho3.open_n at_ HAT.out
  clear hb3 hS hp4 hcw hf2 hf
  go_wp2_with fail
  obtain ⟨Y, hY⟩ : ∃ x, w3.drew = x := ⟨_, rfl⟩
  have hb4 : Below w2.heap.size w2 w3.drew := belowN hb4 1
  have hS3 := hS3.below (Below.refl _ _).drew
  have ho3 := ho3.drew
  have hp5 := hp5.drew
  rw [hY] at hb4 hS3 ho3 hp5
  refine wp_region_held_drew (S := (HkS w.heap.size w1.heap.size K L sk (k : Int))) (by kernel_rfl) (by rw [hY]; exact hS3) (fun hHeld => ?_)
  rw [hY] at hHeld ⊢
  clear hY
  refine tkq 0 (some 49) (v := ?_) rfl (Or.inl ⟨by rfl, ?_⟩) (by assumption) ?_
  rotate_left
  · intro w hSw; (try dsimp only at hSw); go_simp; first | done | (with_reducible rfl)
  simp only [Act.put, List.setIfInBounds_toArray, List.set_cons_zero, List.set_cons_succ]
  refine tkq 1 (some 50) (v := ?_) rfl (Or.inl ⟨by rfl, ?_⟩) (by assumption) ?_
  rotate_left
  · intro w hSw; (try dsimp only at hSw); go_simp; first | done | (with_reducible rfl)
  simp only [Act.put, List.setIfInBounds_toArray, List.set_cons_zero, List.set_cons_succ]
  refine tkq 2 (some 51) (v := ?_) rfl (Or.inl ⟨by rfl, ?_⟩) (by assumption) ?_
  rotate_left
  · intro w hSw; (try dsimp only at hSw); go_simp; first | done | (with_reducible rfl)
  simp only [Act.put, List.setIfInBounds_toArray, List.set_cons_zero, List.set_cons_succ]
  refine tkq 3 (some 52) (v := ?_) rfl (Or.inl ⟨by rfl, ?_⟩) (by assumption) ?_
  rotate_left
  · intro w hSw; (try dsimp only at hSw); have ht := hSw.cw; go_simp; first | done | (with_reducible rfl)
  simp only [Act.put, List.setIfInBounds_toArray, List.set_cons_zero, List.set_cons_succ]
  refine tkq 5 (some 54) (v := ?_) rfl (Or.inl ⟨by rfl, ?_⟩) (by assumption) ?_
  rotate_left
  · intro w hSw; (try dsimp only at hSw); go_simp; first | done | (with_reducible rfl)
  simp only [Act.put, List.setIfInBounds_toArray, List.set_cons_zero, List.set_cons_succ]
  refine tkq 6 (some 55) (v := ?_) rfl (Or.inl ⟨by rfl, ?_⟩) (by assumption) ?_
  rotate_left
  · intro w hSw; (try dsimp only at hSw); have ht := hSw.cw; go_simp; first | done | (with_reducible rfl)
  simp only [Act.put, List.setIfInBounds_toArray, List.set_cons_zero, List.set_cons_succ]
  refine wpAnyH_ready (rs := [4]) (by kernel_rfl) (by simp) ?_
  refine AllReadyH.cons rfl (fun K hK => ?_) AllReadyH.nil
  go_simp
  go_wp2_with (go_at_call 34; refine (HC.out _).mono ?_; rintro e W5 ⟨rfl, rfl⟩)
  refine hK.out _ _ (hS3) (fun hHeld => ?_)
  clear hK K
  refine wpAnyH_ready (rs := [7]) (by kernel_rfl) (by simp) ?_
  refine AllReadyH.cons rfl (fun K hK => ?_) AllReadyH.nil
  go_simp
  go_wp2_with (go_at_call 33; refine (appendnum_any w2.heap.size k _ E C Y ho3 (by have := HAT.out; omega) (by omega) hcb.1 hcb.2 hb4.size).mono ?_; rintro e w5 ⟨v5, rfl, ho5, hb5⟩)
  have hb6 := hb4.trans hb5
  have hS5 := hS3.belowB hb5 hltk hlt2
  have hp6 := hp5.below hb5
  refine hK.out _ _ (hS5) (fun hHeld => ?_)
  clear hK K
  refine tkq 8 (some 11) (v := ?_) rfl (Or.inl ⟨by rfl, ?_⟩) (by assumption) ?_
  rotate_left
  · intro w hSw; (try dsimp only at hSw); go_simp; first | done | (with_reducible rfl)
  simp only [Act.put, List.setIfInBounds_toArray, List.set_cons_zero, List.set_cons_succ]
  refine wpAnyH_done (by kernel_rfl) ?_ _
  have ho5 := ho5.cast HD.out
  obtain ⟨A5, c5, rfl, e1, e2, e3⟩ := ho5.open_n (at_ + k) HDL.out
  have hck := hS5.ck
  have hsz5 := hb6.size
  have hb1s := hb1.size
  clear hb4 hb5 hS3 ho3 hp5
  go_wp2_with fail
  refine (HS1.out w5 A5 c5 e3 e1 e2 (hp6.more (by omega))).mono ?_
  rintro e w7 ⟨v7, rfl, ho7, hb7⟩
  obtain ⟨A7, c7, rfl, f1, f2, f3⟩ := ho7.open_n (np + 8) HXL.out
  have ho6 := ho5.below hb7 (Nat.le_refl _)
  have hS7 := hS5.below hb7
  have hb7 := hb6.trans (hb7.mono hb6.size)
  have hsz7 := hb7.size
  clear ho5 e3 ho7 hS5 hb6 hp6
  go_wp2_with (first | (at_builtin; refine wpList_append_rd (by rfl) (.tmp 57) (.tmp 63) 28 rfl w2.heap.size 5 i0 Try.underlying28 hi hz0 hz1 hz2 _ _ (by rfl) ho6 _ A7 (np + 8) c7 X (by rfl) f3 (by rw [HDL.out]; omega) w2 hb7 hb7.size ?_; intro v8 w8 ho8 hb8 hg8) | fail)
  have hS8 := hS7.kept (Kept.of_grown (S := fun j => w2.heap.size ≤ j) hg8 (fun j hj => .inl (ho6.block_lt j hj).1)) (by omega) (by omega)
  have ho8 := ho8.cast HBR.out.symm
  clear hb7 ho6 hS7 f3 hg8
  go_wp2_with fail
  obtain ⟨g8, c8, _, rfl, _, _, _, _, x1, x2⟩ := ho8.place (by rw [HBL.out]; omega)
  rw [HBL.out] at ho8 x1 ⊢
  have hb8 : Below w2.heap.size w2 w8.drew := belowN hb8 1
  have hS8 := hS8.below (Below.refl _ _).drew
  have ho8 := ho8.drew
  obtain ⟨Y, hY⟩ : ∃ x, w8.drew = x := ⟨_, rfl⟩
  rw [hY] at hb8 hS8 ho8
  obtain ⟨A9, c9, hv9, _, _, hrd8⟩ := ho8.open_n (at_ + k + (np + 8)) HBL.out
  injection hv9 with hv9 _ hv9c
  subst hv9; subst hv9c
  have HR8 := Lib.hid hrd8
  clear hrd8
  refine wp_region_held_drew (S := (HkS w.heap.size w1.heap.size K L sk (k : Int))) (by kernel_rfl) (by rw [hY]; exact hS8) (fun hHeld => ?_)
  rw [hY] at hHeld ⊢
  clear hY
  refine tkq 0 (some 65) (v := ?_) rfl (Or.inl ⟨by rfl, ?_⟩) (by assumption) ?_
  rotate_left
  · intro w hSw; (try dsimp only at hSw); go_simp; first | done | (with_reducible rfl)
  simp only [Act.put, List.setIfInBounds_toArray, List.set_cons_zero, List.set_cons_succ]
  refine tkq 1 (some 66) (v := ?_) rfl (Or.inl ⟨by rfl, ?_⟩) (by assumption) ?_
  rotate_left
  · intro w hSw; (try dsimp only at hSw); go_simp; first | done | (with_reducible rfl)
  simp only [Act.put, List.setIfInBounds_toArray, List.set_cons_zero, List.set_cons_succ]
  refine tkq 2 (some 67) (v := ?_) rfl ?_ (by assumption) ?_
  rotate_left
  · refine yl_any 30 (.tmp 5) ?_ w1.heap.size 0 ?_ L _ ?_ Try.underlying30 rfl ?_ ?_
    · rfl
    · rfl
    · intro w hSw; exact hSw.h.rangeAt
    · rw [HLL.out]; exact hd_info
    · rfl
  simp only [Act.put, List.setIfInBounds_toArray, List.set_cons_zero, List.set_cons_succ]
  refine tkq 3 (some 68) (v := ?_) rfl ?_ (by assumption) ?_
  rotate_left
  · refine yl_any 40 (.tmp 4) ?_ w.heap.size 0 ?_ K _ ?_ Try.underlying40 rfl ?_ ?_
    · rfl
    · rfl
    · intro w hSw; exact hSw.k.rangeAt
    · rw [HKL.out]; exact kt_info
    · rfl
  simp only [Act.put, List.setIfInBounds_toArray, List.set_cons_zero, List.set_cons_succ]
  refine tkq 4 (some 69) (v := ?_) rfl (Or.inl ⟨by rfl, ?_⟩) (by assumption) ?_
  rotate_left
  · intro w hSw; (try dsimp only at hSw); go_simp; first | done | (with_reducible rfl)
  simp only [Act.put, List.setIfInBounds_toArray, List.set_cons_zero, List.set_cons_succ]
  refine tkq 5 (some 70) (v := ?_) rfl (Or.inl ⟨by rfl, ?_⟩) (by assumption) ?_
  rotate_left
  · intro w hSw; (try dsimp only at hSw); go_simp; first | done | (with_reducible rfl)
  simp only [Act.put, List.setIfInBounds_toArray, List.set_cons_zero, List.set_cons_succ]
  refine wpAnyH_ready (rs := [6]) (by kernel_rfl) (by simp) ?_
  refine AllReadyH.cons rfl (fun K hK => ?_) AllReadyH.nil
  go_simp
  go_wp2_with (go_at_call 37; refine (HM1.out Y _ c8 HR8.out x1 x2).mono ?_; rintro e W9 ⟨rfl, hb9⟩)
  have hS9 := hS8.below hb9
  have ho9 := ho8.below hb9 (Nat.le_refl _)
  have hb9 := hb8.trans (hb9.mono hb8.size)
  refine hK.out _ _ (hS9) (fun hHeld => ?_)
  clear hK K
  refine wpAnyH_ready (rs := [7]) (by kernel_rfl) (by simp) ?_
  refine AllReadyH.cons rfl (fun K hK => ?_) AllReadyH.nil
  go_simp
  go_wp2_with (go_at_call 36; refine (HT1.out _ w2.heap.size g8 (at_ + k + (np + 8)) c8 at_ Bb ms ho9 HBL.out (by omega) (by omega) (by omega) hML hMB x1 x2).mono ?_; rintro e Wt ⟨rfl, hot, hkt⟩)
  have hgb := (ho9.block_lt g8 rfl).1
  have hSt := hS9.kept hkt (by omega) (by omega)
  have hbt := hkt.below hb9 hb9.size (by intro j hj; subst hj; exact hgb)
  refine hK.out _ _ (hSt) (fun hHeld => ?_)
  clear hK K
  refine wpAnyH_done (by kernel_rfl) ?_ _
  go_wp2_with fail
  refine bodyPost_ret (results_tmp2 rfl _ _ _) rfl ?_
  exact ProPost.yes HMY.out ((hot.cast HPK.out.symm).base_ hb1.size) (hb1.trans (hbt.mono hb1.size))
theorem protect_any (P : Nat → Prop) (sk mk n : Int) (m : HN) (d : Sl) (tok : List Int) (Ap : Option Addr) (np cp : Nat) (pay : List Int) (w : World) (hf : HFits w P m d tok) (hp : Rd w w.heap.size Ap np pay) (hp1 : np ≤ cp) (hp2 : cp ≤ maxLen) (hp3 : np ≤ 1000000) (s0 : 0 ≤ sk) (s1 : sk < 18446744073709551616) (k0 : 0 ≤ mk) (k1 : mk < 18446744073709551616) (n0 : 0 ≤ n) (n1 : n < 18446744073709551616) (w0 : 0 ≤ m.w) (w4 : m.w ≤ 1000) :
    Calls Try.prog 15 #[.agg (kL sk mk).toArray, hdV m d, .int .u64 n, .slice Ap np cp] w (ProPost sk mk n m tok pay w) := by
  by_cases h : hrightB m tok.length = false ∨ 16383 < m.w + np + 8
  · exact protect_no P sk mk n m d tok Ap np cp pay w hf hp hp1 hp2 hp3 s0 s1 k0 k1 n0 n1 w0 w4 h
  · have h1 : hrightB m tok.length = true := by
      cases hh : hrightB m tok.length with
      | true => rfl
      | false => exact absurd (.inl hh) h
    have h2 : m.w + np + 8 ≤ 16383 := by
      rcases Int.lt_or_le 16383 (m.w + np + 8) with h3 | h3
      · exact absurd (.inr h3) h
      · exact h3
    cases hmay : mayB n m tok pay with
    | true => exact protect_yes P sk mk n m d tok Ap np cp pay w hf hp hp1 hp2 hp3 s0 s1 k0 k1 n0 n1 w0 w4 hmay
    | false => exact protect_bad P sk mk n m d tok Ap np cp pay w hf hp hp1 hp2 hp3 s0 s1 k0 k1 n0 n1 w0 w4 h1 h2 hmay
end Go.Proofs.Ytehdilgnlhhjdaa
