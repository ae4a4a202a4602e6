/-
  lock.Next, lock.Of; the statements' helpers opens and known.
-/
import Derived.Test.YtkgeeoogmkpjhaaLz
import Derived.Lib.SlBytesConst
namespace Go.Proofs.Ytkgeeoogmkpjhaa
set_option linter.unusedVariables false
set_option linter.unusedSimpArgs false
open Go.RowKit Go.ChangeShapes Go.WideShapes Go.Deep
theorem lnext_any (key : Int) (w : World) (k0 : 0 ≤ key) (k1 : key < 18446744073709551616) :
    Calls Try.prog 22 #[.int .u64 key] w fun e w' => e = .returned (.int .u64 (keyedS key [110, 101, 120, 116])) ∧ Below w.heap.size w w' := by
  have HD := Lib.hid (fun W => (show Calls Try.prog 20 #[.int .u64 key, .string { data := #[110, 101, 120, 116] }] W _ from derive_any key [110, 101, 120, 116] W (by intro x hx; simp at hx; omega) (by unfold maxLen; simp) k0 k1))
  obtain ⟨K9, hK9⟩ : ∃ x, keyedS key [110, 101, 120, 116] = x := ⟨_, rfl⟩
  rw [hK9] at HD ⊢
  clear hK9
  go_enter Try.func22, Try.ntmps22
  go_wp2_with fail
  refine (HD.out w).mono ?_
  rintro e w1 ⟨rfl, hb1⟩
  go_wp2_with fail
  go_ret
  exact ⟨rfl, hb1⟩
def keysL (key : Int) : List Value := [.int .u64 (keyedS key [115, 101, 97, 108]), .int .u64 (keyedS key [109, 97, 115, 107])]
set_option maxRecDepth 100000 in
theorem of_keys (key : Int) (w : World) (k0 : 0 ≤ key) (k1 : key < 18446744073709551616) :
    Calls Try.prog 19 #[.int .u64 key] w fun e w' => e = .returned (.agg (keysL key).toArray) ∧ Below w.heap.size w w' := by
  have HD := Lib.hid (fun W => (show Calls Try.prog 20 #[.int .u64 key, .string { data := #[115, 101, 97, 108] }] W _ from derive_any key [115, 101, 97, 108] W (by intro x hx; simp at hx; omega) (by unfold maxLen; simp) k0 k1))
  have HE := Lib.hid (fun W => (show Calls Try.prog 20 #[.int .u64 key, .string { data := #[109, 97, 115, 107] }] W _ from derive_any key [109, 97, 115, 107] W (by intro x hx; simp at hx; omega) (by unfold maxLen; simp) k0 k1))
  unfold keysL
  obtain ⟨K8, hK8⟩ : ∃ x, keyedS key [115, 101, 97, 108] = x := ⟨_, rfl⟩
  rw [hK8] at HD ⊢
  obtain ⟨K9, hK9⟩ : ∃ x, keyedS key [109, 97, 115, 107] = x := ⟨_, rfl⟩
  rw [hK9] at HE ⊢
  clear hK8 hK9
  have hA0 : At (w.alloc (.cells #[.int .u64 0, .int .u64 0] 42)) w.heap.size 42 [.int .u64 0, .int .u64 0] := At.new w _ _
  have hb0 : Below w.heap.size w (w.alloc (.cells #[.int .u64 0, .int .u64 0] 42)) := (Below.refl _ _).alloc (Nat.le_refl _) _
  obtain ⟨w0, hw0⟩ : ∃ x, w.alloc (.cells #[.int .u64 0, .int .u64 0] 42) = x := ⟨_, rfl⟩
  rw [hw0] at hA0 hb0
  go_enter Try.func19, Try.ntmps19
  go_wp2_with fail
  refine (HD.out w0).mono ?_
  rintro e w1 ⟨rfl, hb1⟩
  have hA1 := hA0.below hb1 hA0.lt
  have hb1 := hb0.trans (hb1.mono hb0.size)
  clear hw0
  go_wp2_with fail
  refine (HE.out w1).mono ?_
  rintro e w2 ⟨rfl, hb2⟩
  have hA2 := hA1.below hb2 hA1.lt
  have hb2 := hb1.trans (hb2.mono hb1.size)
  have c0 := hA2.cell 0
  have c1 := hA2.cell 1
  have f0 := hA2.frozen 0
  have f1 := hA2.frozen 1
  simp only [List.getElem?_cons_zero, List.getElem?_cons_succ] at c0 c1
  have hA3 := (hA2.set 0 (.int .u64 K8)).set 1 (.int .u64 K9)
  have hb3 := (hb2.setCell (p := ⟨w.heap.size, 0, none⟩) (Nat.le_refl _) (.int .u64 K8)).setCell (p := ⟨w.heap.size, 1, none⟩) (Nat.le_refl _) (.int .u64 K9)
  have HX := Lib.hid (And.intro hA3 hb3)
  clear hA0 hA1 hA2 hA3 hb0 hb1 hb2 hb3
  go_wp2_with fail
  refine bodyPost_ret (results_cell 2 42 (by rfl) _ 42 [.int .u64 K8, .int .u64 K9] _ (by rfl) HX.out.1 Try.underlying42 rfl (by kernel_rfl)) rfl ?_
  exact ⟨rfl, HX.out.2⟩
set_option maxRecDepth 100000 in
theorem opens_any (key n : Int) (Ah : Option Addr) (nh ch : Nat) (head : List Int) (Ab : Option Addr) (nb cb : Nat) (sealed : List Int) (w : World) (hrh : Rd w w.heap.size Ah nh head) (hrb : Rd w w.heap.size Ab nb sealed) (hh1 : nh ≤ ch) (hh2 : ch ≤ maxLen) (hb1' : nb ≤ cb) (hb2' : cb ≤ maxLen) (hln : nh + nb ≤ 140737488354000) (k0 : 0 ≤ key) (k1 : key < 18446744073709551616) (n0 : 0 ≤ n) (n1 : n < 18446744073709551616) :
    Calls Try.prog 9 #[.int .u64 key, .int .u64 n, .slice Ah nh ch, .slice Ab nb cb] w fun e w' => e = .returned (.bool true) ∧ Below w.heap.size w w' := by
  have H1 := open_any key n Ah nh ch head Ab nb cb sealed w hrh hrb hh1 hh2 hb1' hb2' hln k0 k1 n0 n1
  have H2 := Lib.hid (fun W (h : Rd W W.heap.size Ah nh head) (h' : Rd W W.heap.size Ab nb sealed) => ropen_any key n Ah nh ch head Ab nb cb sealed W h h' hh1 hh2 hb1' hb2' hln k0 k1 n0 n1)
  unfold OpPost at H1 H2
  obtain ⟨B, hB⟩ : ∃ x, openB key n head sealed = x := ⟨_, rfl⟩
  obtain ⟨L, hL⟩ : ∃ x, openS key n head sealed = x := ⟨_, rfl⟩
  rw [hB, hL] at H1 H2
  have htx : ∀ (W : World) A c, Rd W W.heap.size A L.length L → (convert 22 9 (.slice A L.length c)).run Try.prog W = .ok (.string (strOfNums L)) W := fun W A c h => run_text (P := Try.prog) (c := c) h 22 5 9 Try.underlying22 Try.underlying5 Try.underlying9
  obtain ⟨T, hT⟩ : ∃ x, strOfNums L = x := ⟨_, rfl⟩
  rw [hT] at htx
  have HTX := Lib.hid htx
  clear hB hL hT htx
  go_enter Try.func9, Try.ntmps9
  go_wp2_with fail
  refine H1.mono ?_
  rintro e w1 ⟨v1, rfl, ho1, hb1⟩
  go_wp2_with fail
  refine (H2.out w1 ((hrh.below hb1).more hb1.size) ((hrb.below hb1).more hb1.size)).mono ?_
  rintro e w2 ⟨v2, rfl, ho2, hb2⟩
  have ho1 := ho1.below hb2 (Nat.le_refl _)
  have hb2 := hb1.trans (hb2.mono hb1.size)
  obtain ⟨A1, c1, rfl, _, _, p1⟩ := ho1.open_
  obtain ⟨A2, c2, rfl, _, _, p2⟩ := ho2.open_
  have t1 := HTX.out w2 A1 c1 p1
  have t2 := HTX.out w2 A2 c2 p2
  have hTT : (T.toList == T.toList) = true := by simp
  obtain ⟨ln, hln2⟩ : ∃ x, L.length = x := ⟨_, rfl⟩
  rw [hln2] at t1 t2 ⊢
  clear ho1 ho2 p1 p2 hb1 hrh hrb hln2
  cases B
  · go_wp2_with fail
    go_ret
    exact ⟨rfl, hb2⟩
  · go_wp2_with fail
    go_ret
    exact ⟨rfl, hb2⟩
/-- A literal of bytes that a constant string made: its block is marked behind its last cell. -/
theorem Rd.litm (w : World) (t : TypeId) (bs : List Int) (hb : Byt bs) (cs : Array Value) (fr : Nat × Nat) (hcs : cs = (bs.map (Value.int .u8)).toArray) :
    Rd (w.alloc (.cells cs t fr)) (w.heap.size + 1) (some ⟨w.heap.size, 0, none⟩) bs.length bs := by
  subst hcs
  refine ⟨rfl, hb, fun hp => ⟨w.heap.size, 0, rfl, by omega, fun i hi => ?_⟩⟩
  have hg : (w.alloc (.cells (bs.map (Value.int .u8)).toArray t fr)).heap[w.heap.size]? = some (.cells (bs.map (Value.int .u8)).toArray t fr) := by
    show (w.heap.push _)[w.heap.size]? = _
    simp
  rw [cell_of_row _ _ _ _ _ fr hg, Nat.zero_add]
  simp [List.getD_eq_getElem?_getD, List.getElem?_eq_getElem hi]
set_option maxRecDepth 100000 in
set_option maxHeartbeats 2000000 in
theorem lknown_any (w : World) : Calls Try.prog 10 #[] w fun e w' => e = .returned (.bool true) ∧ Below w.heap.size w w' := by
  obtain ⟨i0, hi, hz0, hz1, hz2⟩ := info_parts u8_info
  have hyh : Byt [104, 101, 97, 100] := by intro x hx; simp at hx; omega
  have hyb : Byt [98, 111, 100, 121] := by intro x hx; simp at hx; omega
  have hOS := open_seal 5 6 [104, 101, 97, 100] [98, 111, 100, 121] hyb
  have hsl := sealS_len 5 6 [104, 101, 97, 100] [98, 111, 100, 121]
  have HS := Lib.hid (fun W A A' (h : Rd W W.heap.size A 4 [104, 101, 97, 100]) (h' : Rd W W.heap.size A' 4 [98, 111, 100, 121]) => seal_any 5 6 A 4 4 [104, 101, 97, 100] A' 4 4 [98, 111, 100, 121] W h h' (Nat.le_refl _) (by unfold maxLen; omega) (Nat.le_refl _) (by unfold maxLen; omega) (by omega) (by omega) (by omega) (by omega) (by omega))
  obtain ⟨s, hs⟩ : ∃ x, sealS 5 6 [104, 101, 97, 100] [98, 111, 100, 121] = x := ⟨_, rfl⟩
  rw [hs] at hOS hsl HS
  have HO := Lib.hid (fun W A A' c (h : Rd W W.heap.size A 4 [104, 101, 97, 100]) (h' : Rd W W.heap.size A' 12 s) (hc : 12 ≤ c) (hm : c ≤ maxLen) => open_any 5 6 A 4 4 [104, 101, 97, 100] A' 12 c s W h h' (Nat.le_refl _) (by unfold maxLen; omega) hc hm (by omega) (by omega) (by omega) (by omega) (by omega))
  have HN := Lib.hid (fun W A (h' : Rd W W.heap.size A 7 [0, 0, 0, 0, 0, 0, 0]) => open_any 5 6 none 0 0 [] A 7 7 [0, 0, 0, 0, 0, 0, 0] W (Rd.none_ _ _ _) h' (Nat.le_refl _) (by unfold maxLen; omega) (Nat.le_refl _) (by unfold maxLen; omega) (by omega) (by omega) (by omega) (by omega) (by omega))
  obtain ⟨e1, e2⟩ := openB_short 5 6 [] [0, 0, 0, 0, 0, 0, 0] (by simp)
  unfold OpPost at HO HN
  rw [hOS.1, hOS.2] at HO
  rw [e1, e2] at HN
  have HSL := Lib.hid hsl
  clear hs hOS hsl e1 e2
  have kc := fun (w : World) (C : Array Value) (n c : Nat) => Lib.run_convert_bytes_const (P := Try.prog) w 22 5 C n c Try.underlying22 Try.underlying5
  have hb0 : Below w.heap.size w (w.alloc (.cells #[.int .u8 104, .int .u8 101, .int .u8 97, .int .u8 100] 5 (4, 5))) := (Below.refl _ _).alloc (Nat.le_refl _) _
  have hr0 : Rd (w.alloc (.cells #[.int .u8 104, .int .u8 101, .int .u8 97, .int .u8 100] 5 (4, 5))) (w.heap.size + 1) (some ⟨w.heap.size, 0, none⟩) 4 [104, 101, 97, 100] := Rd.litm w 5 [104, 101, 97, 100] hyh #[.int .u8 104, .int .u8 101, .int .u8 97, .int .u8 100] (4, 5) rfl
  obtain ⟨w0, hw0⟩ : ∃ x, w.alloc (.cells #[.int .u8 104, .int .u8 101, .int .u8 97, .int .u8 100] 5 (4, 5)) = x := ⟨_, rfl⟩
  have hs0 : w0.heap.size = w.heap.size + 1 := by rw [← hw0]; simp
  rw [hw0, ← hs0] at hr0
  rw [hw0] at hb0
  have hb1 : Below w.heap.size w (w0.alloc (.cells #[.int .u8 98, .int .u8 111, .int .u8 100, .int .u8 121] 5 (4, 5))) := hb0.alloc hb0.size _
  have hr1 : Rd (w0.alloc (.cells #[.int .u8 98, .int .u8 111, .int .u8 100, .int .u8 121] 5 (4, 5))) (w0.heap.size + 1) (some ⟨w0.heap.size, 0, none⟩) 4 [98, 111, 100, 121] := Rd.litm w0 5 [98, 111, 100, 121] hyb #[.int .u8 98, .int .u8 111, .int .u8 100, .int .u8 121] (4, 5) rfl
  have hr0 := hr0.alloc (Nat.le_refl _) (.cells #[.int .u8 98, .int .u8 111, .int .u8 100, .int .u8 121] 5 (4, 5))
  obtain ⟨w1, hw1⟩ : ∃ x, w0.alloc (.cells #[.int .u8 98, .int .u8 111, .int .u8 100, .int .u8 121] 5 (4, 5)) = x := ⟨_, rfl⟩
  have hs1 : w1.heap.size = w0.heap.size + 1 := by rw [← hw1]; simp
  rw [hw1, ← hs1] at hr1
  rw [hw1] at hr0 hb1
  have hr0 := hr0.more (show w0.heap.size ≤ w1.heap.size by omega)
  clear hs0 hs1
  go_enter Try.func10, Try.ntmps10
  go_wp2_with fail
  refine (HS.out w1 _ _ hr0 hr1).mono ?_
  rintro e w2 ⟨v2, rfl, ho2, hb2⟩
  have hb2 := hb1.trans (hb2.mono hb1.size)
  obtain ⟨A2, c2, rfl, p1, p2, _⟩ := ho2.open_n 12 HSL.out
  clear hw0 hw1 hr0 hr1 hb0 hb1
  have hb3 : Below w.heap.size w (w2.alloc (.cells #[.int .u8 104, .int .u8 101, .int .u8 97, .int .u8 100] 5 (4, 5))) := hb2.alloc hb2.size _
  have hr3 : Rd (w2.alloc (.cells #[.int .u8 104, .int .u8 101, .int .u8 97, .int .u8 100] 5 (4, 5))) (w2.heap.size + 1) (some ⟨w2.heap.size, 0, none⟩) 4 [104, 101, 97, 100] := Rd.litm w2 5 [104, 101, 97, 100] hyh #[.int .u8 104, .int .u8 101, .int .u8 97, .int .u8 100] (4, 5) rfl
  have ho3 := ho2.alloc (.cells #[.int .u8 104, .int .u8 101, .int .u8 97, .int .u8 100] 5 (4, 5))
  obtain ⟨w3, hw3⟩ : ∃ x, w2.alloc (.cells #[.int .u8 104, .int .u8 101, .int .u8 97, .int .u8 100] 5 (4, 5)) = x := ⟨_, rfl⟩
  have hs3 : w3.heap.size = w2.heap.size + 1 := by rw [← hw3]; simp
  rw [hw3, ← hs3] at hr3
  rw [hw3] at ho3 hb3
  obtain ⟨_, _, hv3, _, _, hq3⟩ := ho3.open_n 12 HSL.out
  injection hv3 with hv3 _ hv4
  subst hv3; subst hv4
  clear hs3
  go_wp2_with fail
  refine (HO.out w3 _ A2 c2 hr3 hq3 p1 p2).mono ?_
  rintro e w4 ⟨v4, rfl, ho4, hb4⟩
  have hb4 := hb3.trans (hb4.mono hb3.size)
  obtain ⟨A4, c4, rfl, _, _, q4⟩ := ho4.open_n 4 rfl
  clear hw3 hr3 ho2 ho3 hb3 hq3
  go_wp2_with (first | (at_make; refine wpList_make_lc rfl (.const (.int .i64 7)) (.const (.int .i64 7)) 22 rfl 5 i0 (.int .u8 0) Try.underlying22 hi hz0 hz1 .i64 .i64 _ _ 7 7 rfl rfl rfl rfl (by omega) (by rw [hz2]; omega) (by unfold maxLen; omega) w.heap.size w hb4 hb4.size ?_; intro w5 g G1 GE hg hb5 hbw5) | fail)
  have hr5 : Rd w5 w5.heap.size (some ⟨g, 0, none⟩) 7 [0, 0, 0, 0, 0, 0, 0] := by
    have hA : At w5 g 5 (madeL (.int .u8 0) 7) := G1.out
    exact Rd.block (by intro x hx; simp at hx; omega) rfl hA (by rw [madeL_u8]; rfl) hA.lt
  have q5 := (q4.below hbw5).more hbw5.size
  refine (HN.out w5 _ hr5).mono ?_
  rintro e w6 ⟨v6, rfl, ho6, hb6⟩
  have q6 := (q5.below hb6).more hb6.size
  have hb6 := hb5.trans (hb6.mono hb5.size)
  have t6 := run_text (P := Try.prog) (c := c4) q6 22 5 9 Try.underlying22 Try.underlying5 Try.underlying9
  obtain ⟨T, hT⟩ : ∃ x, strOfNums [98, 111, 100, 121] = x := ⟨_, rfl⟩
  rw [hT] at t6
  have hTT : T.toList = [98, 111, 100, 121] := by rw [← hT, ByteArray.toList_eq]; rfl
  clear hT q4 q5 q6 hb5 hbw5 hr5 G1 GE ho4 ho6 hb4
  go_wp2_with fail
  go_ret
  exact ⟨rfl, hb6⟩
end Go.Proofs.Ytkgeeoogmkpjhaa
