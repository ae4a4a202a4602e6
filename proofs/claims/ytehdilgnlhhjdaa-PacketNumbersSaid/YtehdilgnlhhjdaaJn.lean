/-
  The document's Of; what the program seals and opens is what the document says.
-/
import Derived.Test.YtehdilgnlhhjdaaJi
import Derived.Test.YtehdilgnlhhjdaaJl
import Derived.Test.YtehdilgnlhhjdaaMq3
namespace Go.Proofs.Ytehdilgnlhhjdaa
set_option linter.unusedVariables false
set_option linter.unusedSimpArgs false
open Go.RowKit Go.ChangeShapes Go.WideShapes Go.Deep
set_option maxRecDepth 100000 in
theorem rof_keys (key : Int) (w : World) (k0 : 0 ≤ key) (k1 : key < 18446744073709551616) :
    Calls Try.prog 6 #[.int .u64 key] w fun e w' => e = .returned (.agg (keysL key).toArray) ∧ Below w.heap.size w w' := by
  have HD := Lib.hid (fun W => (show Calls Try.prog 19 #[.int .u64 key, .string { data := #[115, 101, 97, 108] }] W _ from rderive_any key [115, 101, 97, 108] W (by intro x hx; simp at hx; omega) (by unfold maxLen; simp) k0 k1))
  have HE := Lib.hid (fun W => (show Calls Try.prog 19 #[.int .u64 key, .string { data := #[109, 97, 115, 107] }] W _ from rderive_any key [109, 97, 115, 107] W (by intro x hx; simp at hx; omega) (by unfold maxLen; simp) k0 k1))
  unfold keysL
  obtain ⟨K8, hK8⟩ : ∃ x, keyedS key [115, 101, 97, 108] = x := ⟨_, rfl⟩
  rw [hK8] at HD ⊢
  obtain ⟨K9, hK9⟩ : ∃ x, keyedS key [109, 97, 115, 107] = x := ⟨_, rfl⟩
  rw [hK9] at HE ⊢
  clear hK8 hK9
  have hA0 : At (w.alloc (.cells #[.int .u64 0, .int .u64 0] 24)) w.heap.size 24 [.int .u64 0, .int .u64 0] := At.new w _ _
  have hb0 : Below w.heap.size w (w.alloc (.cells #[.int .u64 0, .int .u64 0] 24)) := (Below.refl _ _).alloc (Nat.le_refl _) _
  obtain ⟨w0, hw0⟩ : ∃ x, w.alloc (.cells #[.int .u64 0, .int .u64 0] 24) = x := ⟨_, rfl⟩
  rw [hw0] at hA0 hb0
  go_enter Try.func6, Try.ntmps6
  go_wp2_with fail
  refine (HD.out w0).mono ?_
  rintro e w1 ⟨rfl, hb1⟩
  have hA1 := hA0.below hb1 hA0.lt
  have hb1 := hb0.trans (hb1.mono hb0.size)
  clear hw0
  go_wp2_with fail
  refine (HE.out w1).mono ?_
  rintro e w2 ⟨rfl, hb2⟩
  have hA2 := hA1.below hb2 hA1.lt
  have hb2 := hb1.trans (hb2.mono hb1.size)
  have c0 := hA2.cell 0
  have c1 := hA2.cell 1
  have f0 := hA2.frozen 0
  have f1 := hA2.frozen 1
  simp only [List.getElem?_cons_zero, List.getElem?_cons_succ] at c0 c1
  have hA3 := (hA2.set 0 (.int .u64 K8)).set 1 (.int .u64 K9)
  have hb3 := (hb2.setCell (p := ⟨w.heap.size, 0, none⟩) (Nat.le_refl _) (.int .u64 K8)).setCell (p := ⟨w.heap.size, 1, none⟩) (Nat.le_refl _) (.int .u64 K9)
  have HX := Lib.hid (And.intro hA3 hb3)
  clear hA0 hA1 hA2 hA3 hb0 hb1 hb2 hb3
  go_wp2_with fail
  refine bodyPost_ret (results_cell 2 24 (by rfl) _ 24 [.int .u64 K8, .int .u64 K9] _ (by rfl) HX.out.1 Try.underlying24 rfl (by kernel_rfl)) rfl ?_
  exact ⟨rfl, HX.out.2⟩
set_option maxRecDepth 100000 in
set_option maxHeartbeats 4000000 in
theorem protects_any (P : Nat → Prop) (sk mk n : Int) (m : HN) (d : Sl) (tok : List Int) (Ap : Option Addr) (np cp : Nat) (pay : List Int) (w : World) (hf : HFits w P m d tok) (hp : Rd w w.heap.size Ap np pay) (hp1 : np ≤ cp) (hp2 : cp ≤ maxLen) (hp3 : np ≤ 1000000) (s0 : 0 ≤ sk) (s1 : sk < 18446744073709551616) (k0 : 0 ≤ mk) (k1 : mk < 18446744073709551616) (n0 : 0 ≤ n) (n1 : n < 18446744073709551616) (w0 : 0 ≤ m.w) (w4 : m.w ≤ 1000) :
    Calls Try.prog 7 #[.agg (kL sk mk).toArray, hdV m d, .int .u64 n, .slice Ap np cp] w (FrPost (.bool true) w) := by
  have HP := Lib.hid (fun W (h : HFits W P m d tok) (h' : Rd W W.heap.size Ap np pay) => protect_any P sk mk n m d tok Ap np cp pay W h h' hp1 hp2 hp3 s0 s1 k0 k1 n0 n1 w0 w4)
  have HR := Lib.hid (fun W (h : HFits W P m d tok) (h' : Rd W W.heap.size Ap np pay) => rprotect_any P sk mk n m d tok Ap np cp pay W h h' hp1 hp2 hp3 s0 s1 k0 k1 n0 n1 w0 w4)
  obtain ⟨R, hR⟩ : ∃ R, (if mayB n m tok pay = true then packS sk mk n m tok pay else []) = R := ⟨_, rfl⟩
  obtain ⟨B, hB⟩ : ∃ B, mayB n m tok pay = B := ⟨_, rfl⟩
  obtain ⟨why, hwhy⟩ : ∃ y : Int, (if B = true then 0 else 1) = y := ⟨_, rfl⟩
  have HP2 := Lib.hid (fun W e W' (h : ProPost sk mk n m tok pay W e W') => (show ∃ v, e = .returned (.tuple #[v, .int .i64 why]) ∧ Own W' W.heap.size 5 v R ∧ Below W.heap.size W W' by unfold ProPost at h; rw [hR, hB, hwhy] at h; exact h))
  have HR2 := Lib.hid (fun W e W' (h : RProPost sk mk n m tok pay W e W') => (show ∃ v, e = .returned (.tuple #[v, .bool B]) ∧ Own W' W.heap.size 5 v R ∧ Below W.heap.size W W' by unfold RProPost at h; rw [hR, hB] at h; exact h))
  have hK0 : At (w.alloc (.cells (kL sk mk).toArray 24)) w.heap.size 24 (kL sk mk) := At.new w 24 _
  have hb0 : Below w.heap.size w (w.alloc (.cells (kL sk mk).toArray 24)) := (Below.refl _ _).alloc (Nat.le_refl _) _
  have hkk : (kL sk mk) = [.int .u64 sk, .int .u64 mk] := rfl
  have hvv : hdV m d = .agg (hdL m d).toArray := rfl
  rw [hkk] at hK0 hb0 HP HR ⊢
  rw [hvv] at HP HR ⊢
  obtain ⟨w1, hw1⟩ : ∃ x, w.alloc (.cells [.int .u64 sk, .int .u64 mk].toArray 24) = x := ⟨_, rfl⟩
  rw [hw1] at hK0 hb0
  have hH0 : At (w1.alloc (.cells (hdL m d).toArray 30)) w1.heap.size 30 (hdL m d) := At.new w1 30 _
  have hK1 := hK0.alloc (.cells (hdL m d).toArray 30)
  have hb1 := hb0.alloc hb0.size (.cells (hdL m d).toArray 30)
  obtain ⟨L, hL⟩ : ∃ L, hdL m d = L := ⟨_, rfl⟩
  have hLl : L.length = 20 := by rw [← hL]; rfl
  rw [hL] at hH0 hK1 hb1 HP HR ⊢
  obtain ⟨w2, hw2⟩ : ∃ x, w1.alloc (.cells L.toArray 30) = x := ⟨_, rfl⟩
  rw [hw2] at hH0 hK1 hb1
  have hf2 := hf.below hb1
  have hp4 := (hp.below hb1).more hb1.size
  have HLL := Lib.hid hLl
  have c0 := hK1.cell 0
  have c1 := hK1.cell 1
  simp only [List.getElem?_cons_zero, List.getElem?_cons_succ] at c0 c1
  have hlt0 := hK1.lt
  have HWHY := Lib.hid hwhy
  clear hLl hL hkk hvv hR hB hf hp hwhy
  go_enter Try.func7, Try.ntmps7
  go_wp2_with (first | ((with_reducible refine at_ldh ?_); refine ld_hd w1.heap.size L (by rfl) hH0 HLL.out ?_) | fail)
  refine (HP.out w2 hf2 hp4).mono ?_
  intro e w3 hpp
  obtain ⟨v3, rfl, ho3, hb3⟩ := HP2.out _ _ _ hpp
  have hf3 := hf2.below hb3
  have hp5 := (hp4.below hb3).more hb3.size
  have hK3 := hK1.below hb3 hK1.lt
  have hH3 := hH0.below hb3 hH0.lt
  have hb4 := hb1.trans (hb3.mono hb1.size)
  clear hpp hf2 hp4 hK1 hH0 hb1 c0 c1
  go_wp2_with (first | ((with_reducible refine at_ldrk ?_); refine ld_rkt w.heap.size [.int .u64 sk, .int .u64 mk] (by rfl) hK3 rfl ?_) | ((with_reducible refine at_ldh ?_); refine ld_hd w1.heap.size L (by rfl) hH3 HLL.out ?_) | fail)
  refine (HR.out w3 hf3 hp5).mono ?_
  intro e w5 hpp
  obtain ⟨v5, rfl, ho5, hb5⟩ := HR2.out _ _ _ hpp
  have ho3 := ho3.below hb5 (Nat.le_refl _)
  have hb6 := hb4.trans (hb5.mono hb4.size)
  obtain ⟨A3, c3, rfl, _, _, h3⟩ := ho3.open_n R.length rfl
  obtain ⟨A5, c5, rfl, _, _, h5⟩ := ho5.open_n R.length rfl
  have t3 := run_text (P := Try.prog) (c := c3) h3 28 5 9 Try.underlying28 Try.underlying5 Try.underlying9
  have t5 := run_text (P := Try.prog) (c := c5) h5 28 5 9 Try.underlying28 Try.underlying5 Try.underlying9
  obtain ⟨T, hT⟩ : ∃ T, strOfNums R = T := ⟨_, rfl⟩
  rw [hT] at t3 t5
  have hTT : (T.toList == T.toList) = true := by simp
  clear hpp hf3 hp5 hK3 hH3 ho3 ho5 h3 h5 hT hb4 hb5 HP2 HR2 HP HR
  obtain ⟨RL, hRL⟩ : ∃ l, R.length = l := ⟨_, rfl⟩
  rw [hRL] at t3 t5 ⊢
  clear hRL
  cases B
  · obtain rfl : (1 : Int) = why := HWHY.out
    go_wp2_with fail
    go_ret
    exact ⟨rfl, hb6⟩
  · obtain rfl : (0 : Int) = why := HWHY.out
    go_wp2_with fail
    go_ret
    exact ⟨rfl, hb6⟩
/-- What Parse says, in the law's words. -/
theorem parse_end (bs : List Int) : ∃ (m : HN) (tok : List Int) (a b : Int) (ok : Bool), (match parseS bs with | none => (0 : Int) | some x => x.2.2.2) = b ∧ (parseS bs).isSome = ok ∧ (∀ w e w', RPPost bs w e w' → ∃ d, e = .returned (.tuple #[hdV m d, .int .i64 a, .int .i64 b, .bool ok]) ∧ Below w.heap.size w w') := by
  cases hp : parseS bs with
  | none => exact ⟨.zero, [], 0, 0, false, rfl, rfl, fun w e w' h => by unfold RPPost at h; rw [hp] at h; exact ⟨_, h.1, h.2⟩⟩
  | some x => exact ⟨x.1, x.2.1, x.2.2.1, x.2.2.2, true, rfl, rfl, fun w e w' h => by unfold RPPost at h; rw [hp] at h; obtain ⟨⟨d, h1, h2, _⟩, h3⟩ := h; exact ⟨d, h1, h3⟩⟩
theorem rrv_out (mk : Int) (bs : List Int) : ∃ (m : HN) (tok : List Int) (low : Int) (ok : Bool) (why : Int), outS mk bs = (m, tok, low, why) ∧ (why = 0 ∧ ok = true ∨ why = 12 ∧ ok = false) ∧ (∀ w e w', RRvPost mk bs w e w' → ∃ d v at_, e = .returned (.tuple #[hdV m d, .int .u32 low, v, .int .i64 at_, .bool ok]) ∧ InD w' (fun b => w.heap.size ≤ b) d tok ∧ m.wf ∧ Below w.heap.size w w') := by
  unfold outS
  cases hr : revS mk bs with
  | none => exact ⟨_, _, _, false, _, rfl, .inr ⟨rfl, rfl⟩, fun w e w' h => by unfold RRvPost at h; rw [hr] at h; exact ⟨_, _, _, h.1, inD_nil _ _, HN.zero_wf, h.2⟩⟩
  | some r => exact ⟨_, _, _, true, _, rfl, .inl ⟨rfl, rfl⟩, fun w e w' h => by unfold RRvPost at h; rw [hr] at h; obtain ⟨⟨d, v, h1, h2, h3, h4⟩, h5⟩ := h; exact ⟨d, v, _, h1, h2, h3, h5⟩⟩
set_option maxRecDepth 100000 in
set_option maxHeartbeats 8000000 in
theorem opens9_any (sk mk l : Int) (has : Bool) (A : Option Addr) (n c : Nat) (bs : List Int) (w : World) (hr : Rd w w.heap.size A n bs) (hn : n ≤ 1000000) (hnc : n ≤ c) (hcm : c ≤ maxLen) (hA : A = none → c = 0) (s0 : 0 ≤ sk) (s1 : sk < 18446744073709551616) (k0 : 0 ≤ mk) (k1 : mk < 18446744073709551616) (l0 : 0 ≤ l) (l1 : l < 18446744073709551616) :
    Calls Try.prog 9 #[.agg (kL sk mk).toArray, .slice A n c, .int .u64 l, .bool has] w (FrPost (.bool true) w) := by
  have HU := Lib.hid (fun W (h : Rd W W.heap.size A n bs) => unprotect_any sk mk l has A n c bs W h hn hnc hcm hA s0 s1 k0 k1 l0 l1)
  have HRU := Lib.hid (fun W (h : Rd W W.heap.size A n bs) => runprotect_any sk mk l has A n c bs W h hn hnc hcm hA s0 s1 k0 k1 l0 l1)
  have HV := Lib.hid (fun W (h : Rd W W.heap.size A n bs) => reveal_any sk mk A n c bs W h hn hnc hcm hA k0 k1)
  have HRV := Lib.hid (fun W (h : Rd W W.heap.size A n bs) => rreveal_any sk mk A n c bs W h hn hnc hcm hA k0 k1)
  have HRP := Lib.hid (fun W (h : Rd W W.heap.size A n bs) => rparse_any A n c bs W h hn hnc hcm hA)
  obtain ⟨m, tok, N, pay, why, hun⟩ : ∃ m tok N pay why, unpS sk mk l has bs = (m, tok, N, pay, why) := ⟨_, _, _, _, _, rfl⟩
  have HUP := Lib.hid (fun W e W' (h : UnpPost sk mk l has bs W e W') => (show ∃ d v, e = .returned (.tuple #[hdV m d, .int .u64 N, v, .int .i64 why]) ∧ InD W' (fun b => W.heap.size ≤ b) d tok ∧ m.wf ∧ Own W' W.heap.size 5 v pay ∧ Below W.heap.size W W' by unfold UnpPost at h; rw [hun] at h; exact h))
  obtain ⟨rm, rtok, low, rok, rwhy, hout, hrw, hrrv⟩ := rrv_out mk bs
  have HRO := Lib.hid hrrv
  have HVO := Lib.hid (fun W e W' (h : RevPost mk bs W e W') => (show ∃ d, e = .returned (.tuple #[hdV rm d, .int .u32 low, .int .i64 rwhy]) ∧ InD W' (fun b => W.heap.size ≤ b) d rtok ∧ rm.wf ∧ Below W.heap.size W W' by unfold RevPost at h; rw [hout] at h; exact h))
  obtain ⟨pm, ptok, pa, pb, pok, hpb, hpok, hppo⟩ := parse_end bs
  have HC := Lib.hid (fun W (h : Rd W W.heap.size A n bs) => (show Calls Try.prog 18 #[.slice A n c] W (fun e w' => e = .returned (.tuple #[.int .i64 pb, .bool pok]) ∧ Below W.heap.size W w') from (cut9_any A n c bs W h hn hA).mono (fun e w' hh => by rw [← hpb, ← hpok]; exact hh)))
  have HPO := Lib.hid hppo
  have HSM := Lib.hid (fun (P P' : Nat → Prop) (d d' : Sl) W (h : HFits W P m d tok) (h' : HFits W P' m d' tok) => rhsame_eq P P' m d d' tok W h h')
  have HSR := Lib.hid (fun (P P' : Nat → Prop) (d d' : Sl) W (h : HFits W P rm d rtok) (h' : HFits W P' rm d' rtok) => rhsame_eq P P' rm d d' rtok W h h')
  have HRW := Lib.hid hrw
  have hK0 : At (w.alloc (.cells (kL sk mk).toArray 24)) w.heap.size 24 (kL sk mk) := At.new w 24 _
  have hb0 : Below w.heap.size w (w.alloc (.cells (kL sk mk).toArray 24)) := (Below.refl _ _).alloc (Nat.le_refl _) _
  have hkk : (kL sk mk) = [.int .u64 sk, .int .u64 mk] := rfl
  rw [hkk] at hK0 hb0 HU HRU HV HRV ⊢
  obtain ⟨w1, hw1⟩ : ∃ x, w.alloc (.cells [.int .u64 sk, .int .u64 mk].toArray 24) = x := ⟨_, rfl⟩
  rw [hw1] at hK0 hb0
  have c0 := hK0.cell 0
  have c1 := hK0.cell 1
  simp only [List.getElem?_cons_zero, List.getElem?_cons_succ] at c0 c1
  have hr1 := (hr.below hb0).more hb0.size
  clear hun hout hrrv hpb hpok hppo hrw hkk hr
  go_enter Try.func9, Try.ntmps9
  go_wp2_with fail
  have hKK0 : At (w1.alloc (.cells #[.int .u64 sk, .int .u64 mk] 40)) w1.heap.size 40 [.int .u64 sk, .int .u64 mk] := At.new w1 40 [.int .u64 sk, .int .u64 mk]
  have hbq : Below w1.heap.size w1 (w1.alloc (.cells #[.int .u64 sk, .int .u64 mk] 40)) := (Below.refl _ _).alloc (Nat.le_refl _) _
  have hRq := hK0.below hbq hK0.lt
  have hr := (hr1.below hbq).more hbq.size
  have hbt := hb0.trans (hbq.mono hb0.size)
  obtain ⟨W0, hW0⟩ : ∃ x, w1.alloc (.cells #[.int .u64 sk, .int .u64 mk] 40) = x := ⟨_, rfl⟩
  rw [hW0] at hKK0 hRq hr hbt ⊢
  have hKK := hKK0
  clear hKK0 hbq hr1 hK0 hb0 c0 c1 hw1 hW0
  refine (HU.out W0 hr).mono ?_
  intro e V0 hpp
  obtain ⟨du, pu, rfl, hiu, hwfu, hou, hbu⟩ := HUP.out _ _ _ hpp
  clear hpp
  have hRq := hRq.below hbu hRq.lt
  have hKK := hKK.below hbu hKK.lt
  have hr := (hr.below hbu).more hbu.size
  have hbt := hbt.trans (hbu.mono hbt.size)
  have hFu : HFits V0 (fun b => W0.heap.size ≤ b) m du tok := ⟨hwfu, hiu⟩
  have hNu : At (V0.alloc (.cells #[.int .i64 0, .int .u8 0, .int .u8 0, .int .u8 0, .int .u8 0, .int .u8 0, .int .u8 0, .int .u8 0, .int .u8 0, .int .u8 0, .int .u8 0, .int .u8 0, .int .u8 0, .int .u8 0, .int .u8 0, .int .u8 0, .int .u8 0, .slice none 0 0, .int .i64 0, .bool false] 30)) V0.heap.size 30 (hdL .zero .nil) := At.new V0 30 (hdL .zero .nil)
  have hbz : Below V0.heap.size V0 (V0.alloc (.cells #[.int .i64 0, .int .u8 0, .int .u8 0, .int .u8 0, .int .u8 0, .int .u8 0, .int .u8 0, .int .u8 0, .int .u8 0, .int .u8 0, .int .u8 0, .int .u8 0, .int .u8 0, .int .u8 0, .int .u8 0, .int .u8 0, .int .u8 0, .slice none 0 0, .int .i64 0, .bool false] 30)) := (Below.refl _ _).alloc (Nat.le_refl _) _
  have hvv : hdV m du = .agg (hdL m du).toArray := rfl
  rw [hvv]
  have hGou : (hdL m du).all (·.oneCell') = true := rfl
  obtain ⟨Gu, hGu⟩ : ∃ G, hdL m du = G := ⟨_, rfl⟩
  have hGlu : Gu.length = 20 := by rw [← hGu]; rfl
  rw [hGu] at hvv hGou ⊢
  have HVVu := Lib.hid hvv
  have HGLu := Lib.hid hGlu
  clear hvv hGu hGlu hbu hwfu hiu
  go_wp2_with (first | ((with_reducible refine at_sth ?_); refine st_hd V0.heap.size (hdL .zero .nil) Gu (by rfl) (by rfl) hNu rfl HGLu.out hGou ?_; intro U0 hAu hku; have hbs := hku.below hbz hbz.size (by intro j hj; subst hj; exact Nat.le_refl _); have hRq := hRq.below hbs hRq.lt; have hKK := hKK.below hbs hKK.lt; have hr := (hr.below hbs).more hbs.size; have hFu := hFu.below hbs; have hou := hou.below hbs (Nat.le_refl _); have hbt := hbt.trans (hbs.mono hbt.size); clear hbz hbs hku hNu) | ((with_reducible refine at_ldk ?_); refine ld_kt w1.heap.size [.int .u64 sk, .int .u64 mk] (by rfl) hKK rfl ?_) | ((with_reducible refine at_ldrk ?_); refine ld_rkt w.heap.size [.int .u64 sk, .int .u64 mk] (by rfl) hRq rfl ?_) | fail)
  refine (HRU.out U0 hr).mono ?_
  intro e V1 hpp
  obtain ⟨dru, pru, rfl, hiru, hwfru, horu, hbru⟩ := HUP.out _ _ _ hpp
  clear hpp
  have hRq := hRq.below hbru hRq.lt
  have hKK := hKK.below hbru hKK.lt
  have hr := (hr.below hbru).more hbru.size
  have hFu := hFu.below hbru
  have hou := hou.below hbru (Nat.le_refl _)
  have hAu := hAu.below hbru hAu.lt
  have hbt := hbt.trans (hbru.mono hbt.size)
  have hFru : HFits V1 (fun b => U0.heap.size ≤ b) m dru tok := ⟨hwfru, hiru⟩
  have hNru : At (V1.alloc (.cells #[.int .i64 0, .int .u8 0, .int .u8 0, .int .u8 0, .int .u8 0, .int .u8 0, .int .u8 0, .int .u8 0, .int .u8 0, .int .u8 0, .int .u8 0, .int .u8 0, .int .u8 0, .int .u8 0, .int .u8 0, .int .u8 0, .int .u8 0, .slice none 0 0, .int .i64 0, .bool false] 30)) V1.heap.size 30 (hdL .zero .nil) := At.new V1 30 (hdL .zero .nil)
  have hbz : Below V1.heap.size V1 (V1.alloc (.cells #[.int .i64 0, .int .u8 0, .int .u8 0, .int .u8 0, .int .u8 0, .int .u8 0, .int .u8 0, .int .u8 0, .int .u8 0, .int .u8 0, .int .u8 0, .int .u8 0, .int .u8 0, .int .u8 0, .int .u8 0, .int .u8 0, .int .u8 0, .slice none 0 0, .int .i64 0, .bool false] 30)) := (Below.refl _ _).alloc (Nat.le_refl _) _
  have hvv : hdV m dru = .agg (hdL m dru).toArray := rfl
  rw [hvv]
  have hGoru : (hdL m dru).all (·.oneCell') = true := rfl
  obtain ⟨Gru, hGru⟩ : ∃ G, hdL m dru = G := ⟨_, rfl⟩
  have hGlru : Gru.length = 20 := by rw [← hGru]; rfl
  rw [hGru] at hvv hGoru ⊢
  have HVVru := Lib.hid hvv
  have HGLru := Lib.hid hGlru
  clear hvv hGru hGlru hbru hwfru hiru
  go_wp2_with (first | ((with_reducible refine at_sth ?_); refine st_hd V1.heap.size (hdL .zero .nil) Gru (by rfl) (by rfl) hNru rfl HGLru.out hGoru ?_; intro U1 hAru hkru; have hbs := hkru.below hbz hbz.size (by intro j hj; subst hj; exact Nat.le_refl _); have hRq := hRq.below hbs hRq.lt; have hKK := hKK.below hbs hKK.lt; have hr := (hr.below hbs).more hbs.size; have hFu := hFu.below hbs; have hou := hou.below hbs (Nat.le_refl _); have hAu := hAu.below hbs hAu.lt; have hFru := hFru.below hbs; have horu := horu.below hbs (Nat.le_refl _); have hbt := hbt.trans (hbs.mono hbt.size); clear hbz hbs hkru hNru) | ((with_reducible refine at_ldk ?_); refine ld_kt w1.heap.size [.int .u64 sk, .int .u64 mk] (by rfl) hKK rfl ?_) | ((with_reducible refine at_ldrk ?_); refine ld_rkt w.heap.size [.int .u64 sk, .int .u64 mk] (by rfl) hRq rfl ?_) | fail)
  refine (HV.out U1 hr).mono ?_
  intro e V2 hpp
  obtain ⟨dv, rfl, hiv, hwfv, hbv⟩ := HVO.out _ _ _ hpp
  clear hpp
  have hRq := hRq.below hbv hRq.lt
  have hKK := hKK.below hbv hKK.lt
  have hr := (hr.below hbv).more hbv.size
  have hFu := hFu.below hbv
  have hou := hou.below hbv (Nat.le_refl _)
  have hAu := hAu.below hbv hAu.lt
  have hFru := hFru.below hbv
  have horu := horu.below hbv (Nat.le_refl _)
  have hAru := hAru.below hbv hAru.lt
  have hbt := hbt.trans (hbv.mono hbt.size)
  have hFv : HFits V2 (fun b => U1.heap.size ≤ b) rm dv rtok := ⟨hwfv, hiv⟩
  have hNv : At (V2.alloc (.cells #[.int .i64 0, .int .u8 0, .int .u8 0, .int .u8 0, .int .u8 0, .int .u8 0, .int .u8 0, .int .u8 0, .int .u8 0, .int .u8 0, .int .u8 0, .int .u8 0, .int .u8 0, .int .u8 0, .int .u8 0, .int .u8 0, .int .u8 0, .slice none 0 0, .int .i64 0, .bool false] 30)) V2.heap.size 30 (hdL .zero .nil) := At.new V2 30 (hdL .zero .nil)
  have hbz : Below V2.heap.size V2 (V2.alloc (.cells #[.int .i64 0, .int .u8 0, .int .u8 0, .int .u8 0, .int .u8 0, .int .u8 0, .int .u8 0, .int .u8 0, .int .u8 0, .int .u8 0, .int .u8 0, .int .u8 0, .int .u8 0, .int .u8 0, .int .u8 0, .int .u8 0, .int .u8 0, .slice none 0 0, .int .i64 0, .bool false] 30)) := (Below.refl _ _).alloc (Nat.le_refl _) _
  have hvv : hdV rm dv = .agg (hdL rm dv).toArray := rfl
  rw [hvv]
  have hGov : (hdL rm dv).all (·.oneCell') = true := rfl
  obtain ⟨Gv, hGv⟩ : ∃ G, hdL rm dv = G := ⟨_, rfl⟩
  have hGlv : Gv.length = 20 := by rw [← hGv]; rfl
  rw [hGv] at hvv hGov ⊢
  have HVVv := Lib.hid hvv
  have HGLv := Lib.hid hGlv
  clear hvv hGv hGlv hbv hwfv hiv
  go_wp2_with (first | ((with_reducible refine at_sth ?_); refine st_hd V2.heap.size (hdL .zero .nil) Gv (by rfl) (by rfl) hNv rfl HGLv.out hGov ?_; intro U2 hAv hkv; have hbs := hkv.below hbz hbz.size (by intro j hj; subst hj; exact Nat.le_refl _); have hRq := hRq.below hbs hRq.lt; have hKK := hKK.below hbs hKK.lt; have hr := (hr.below hbs).more hbs.size; have hFu := hFu.below hbs; have hou := hou.below hbs (Nat.le_refl _); have hAu := hAu.below hbs hAu.lt; have hFru := hFru.below hbs; have horu := horu.below hbs (Nat.le_refl _); have hAru := hAru.below hbs hAru.lt; have hFv := hFv.below hbs; have hbt := hbt.trans (hbs.mono hbt.size); clear hbz hbs hkv hNv) | ((with_reducible refine at_ldk ?_); refine ld_kt w1.heap.size [.int .u64 sk, .int .u64 mk] (by rfl) hKK rfl ?_) | ((with_reducible refine at_ldrk ?_); refine ld_rkt w.heap.size [.int .u64 sk, .int .u64 mk] (by rfl) hRq rfl ?_) | fail)
  refine (HRV.out U2 hr).mono ?_
  intro e V3 hpp
  obtain ⟨drv, xx, xa, rfl, hirv, hwfrv, hbrv⟩ := HRO.out _ _ _ hpp
  clear hpp
  have hRq := hRq.below hbrv hRq.lt
  have hKK := hKK.below hbrv hKK.lt
  have hr := (hr.below hbrv).more hbrv.size
  have hFu := hFu.below hbrv
  have hou := hou.below hbrv (Nat.le_refl _)
  have hAu := hAu.below hbrv hAu.lt
  have hFru := hFru.below hbrv
  have horu := horu.below hbrv (Nat.le_refl _)
  have hAru := hAru.below hbrv hAru.lt
  have hFv := hFv.below hbrv
  have hAv := hAv.below hbrv hAv.lt
  have hbt := hbt.trans (hbrv.mono hbt.size)
  have hFrv : HFits V3 (fun b => U2.heap.size ≤ b) rm drv rtok := ⟨hwfrv, hirv⟩
  have hNrv : At (V3.alloc (.cells #[.int .i64 0, .int .u8 0, .int .u8 0, .int .u8 0, .int .u8 0, .int .u8 0, .int .u8 0, .int .u8 0, .int .u8 0, .int .u8 0, .int .u8 0, .int .u8 0, .int .u8 0, .int .u8 0, .int .u8 0, .int .u8 0, .int .u8 0, .slice none 0 0, .int .i64 0, .bool false] 30)) V3.heap.size 30 (hdL .zero .nil) := At.new V3 30 (hdL .zero .nil)
  have hbz : Below V3.heap.size V3 (V3.alloc (.cells #[.int .i64 0, .int .u8 0, .int .u8 0, .int .u8 0, .int .u8 0, .int .u8 0, .int .u8 0, .int .u8 0, .int .u8 0, .int .u8 0, .int .u8 0, .int .u8 0, .int .u8 0, .int .u8 0, .int .u8 0, .int .u8 0, .int .u8 0, .slice none 0 0, .int .i64 0, .bool false] 30)) := (Below.refl _ _).alloc (Nat.le_refl _) _
  have hvv : hdV rm drv = .agg (hdL rm drv).toArray := rfl
  rw [hvv]
  have hGorv : (hdL rm drv).all (·.oneCell') = true := rfl
  obtain ⟨Grv, hGrv⟩ : ∃ G, hdL rm drv = G := ⟨_, rfl⟩
  have hGlrv : Grv.length = 20 := by rw [← hGrv]; rfl
  rw [hGrv] at hvv hGorv ⊢
  have HVVrv := Lib.hid hvv
  have HGLrv := Lib.hid hGlrv
  clear hvv hGrv hGlrv hbrv hwfrv hirv
  go_wp2_with (first | ((with_reducible refine at_sth ?_); refine st_hd V3.heap.size (hdL .zero .nil) Grv (by rfl) (by rfl) hNrv rfl HGLrv.out hGorv ?_; intro U3 hArv hkrv; have hbs := hkrv.below hbz hbz.size (by intro j hj; subst hj; exact Nat.le_refl _); have hRq := hRq.below hbs hRq.lt; have hKK := hKK.below hbs hKK.lt; have hr := (hr.below hbs).more hbs.size; have hFu := hFu.below hbs; have hou := hou.below hbs (Nat.le_refl _); have hAu := hAu.below hbs hAu.lt; have hFru := hFru.below hbs; have horu := horu.below hbs (Nat.le_refl _); have hAru := hAru.below hbs hAru.lt; have hFv := hFv.below hbs; have hAv := hAv.below hbs hAv.lt; have hFrv := hFrv.below hbs; have hbt := hbt.trans (hbs.mono hbt.size); clear hbz hbs hkrv hNrv) | ((with_reducible refine at_ldk ?_); refine ld_kt w1.heap.size [.int .u64 sk, .int .u64 mk] (by rfl) hKK rfl ?_) | ((with_reducible refine at_ldrk ?_); refine ld_rkt w.heap.size [.int .u64 sk, .int .u64 mk] (by rfl) hRq rfl ?_) | fail)
  refine (HC.out U3 hr).mono ?_
  rintro e V4 ⟨rfl, hbc⟩
  have hRq := hRq.below hbc hRq.lt
  have hKK := hKK.below hbc hKK.lt
  have hr := (hr.below hbc).more hbc.size
  have hFu := hFu.below hbc
  have hou := hou.below hbc (Nat.le_refl _)
  have hAu := hAu.below hbc hAu.lt
  have hFru := hFru.below hbc
  have horu := horu.below hbc (Nat.le_refl _)
  have hAru := hAru.below hbc hAru.lt
  have hFv := hFv.below hbc
  have hAv := hAv.below hbc hAv.lt
  have hFrv := hFrv.below hbc
  have hArv := hArv.below hbc hArv.lt
  have hbt := hbt.trans (hbc.mono hbt.size)
  clear hbc
  go_wp2_with fail
  refine (HRP.out V4 hr).mono ?_
  intro e V5 hpp
  obtain ⟨dp, rfl, hbp⟩ := HPO.out _ _ _ hpp
  clear hpp
  have hRq := hRq.below hbp hRq.lt
  have hKK := hKK.below hbp hKK.lt
  have hr := (hr.below hbp).more hbp.size
  have hFu := hFu.below hbp
  have hou := hou.below hbp (Nat.le_refl _)
  have hAu := hAu.below hbp hAu.lt
  have hFru := hFru.below hbp
  have horu := horu.below hbp (Nat.le_refl _)
  have hAru := hAru.below hbp hAru.lt
  have hFv := hFv.below hbp
  have hAv := hAv.below hbp hAv.lt
  have hFrv := hFrv.below hbp
  have hArv := hArv.below hbp hArv.lt
  have hbt := hbt.trans (hbp.mono hbt.size)
  clear hbp
  have hNp : At (V5.alloc (.cells #[.int .i64 0, .int .u8 0, .int .u8 0, .int .u8 0, .int .u8 0, .int .u8 0, .int .u8 0, .int .u8 0, .int .u8 0, .int .u8 0, .int .u8 0, .int .u8 0, .int .u8 0, .int .u8 0, .int .u8 0, .int .u8 0, .int .u8 0, .slice none 0 0, .int .i64 0, .bool false] 30)) V5.heap.size 30 (hdL .zero .nil) := At.new V5 30 (hdL .zero .nil)
  have hbz : Below V5.heap.size V5 (V5.alloc (.cells #[.int .i64 0, .int .u8 0, .int .u8 0, .int .u8 0, .int .u8 0, .int .u8 0, .int .u8 0, .int .u8 0, .int .u8 0, .int .u8 0, .int .u8 0, .int .u8 0, .int .u8 0, .int .u8 0, .int .u8 0, .int .u8 0, .int .u8 0, .slice none 0 0, .int .i64 0, .bool false] 30)) := (Below.refl _ _).alloc (Nat.le_refl _) _
  have hvv : hdV pm dp = .agg (hdL pm dp).toArray := rfl
  rw [hvv]
  have hGop : (hdL pm dp).all (·.oneCell') = true := rfl
  obtain ⟨Gp, hGp⟩ : ∃ G, hdL pm dp = G := ⟨_, rfl⟩
  have hGlp : Gp.length = 20 := by rw [← hGp]; rfl
  rw [hGp] at hGop ⊢
  have HGLp := Lib.hid hGlp
  clear hvv hGp hGlp
  obtain ⟨PL, hPL⟩ : ∃ l, pay.length = l := ⟨_, rfl⟩
  obtain ⟨T, hT⟩ : ∃ T, strOfNums pay = T := ⟨_, rfl⟩
  have hTT : (T.toList == T.toList) = true := by simp
  obtain ⟨Au, cu, hvu, _, _, _⟩ := hou.open_n PL hPL
  obtain ⟨Ar, cr, hvr, _, _, _⟩ := horu.open_n PL hPL
  subst hvu
  subst hvr
  have HTX := Lib.hid (fun W A c (h : Own W W0.heap.size 5 (.slice A PL c) pay) => (show (convert 28 9 (.slice A PL c)).run Try.prog W = .ok (.string T) W from by rw [← hT]; obtain ⟨A', c', hv, _, _, h'⟩ := h.open_n PL hPL; injection hv with hv _ hvc; subst hv; subst hvc; exact run_text (P := Try.prog) (c := c) h' 28 5 9 Try.underlying28 Try.underlying5 Try.underlying9))
  have HTY := Lib.hid (fun W A c (h : Own W U0.heap.size 5 (.slice A PL c) pay) => (show (convert 28 9 (.slice A PL c)).run Try.prog W = .ok (.string T) W from by rw [← hT]; obtain ⟨A', c', hv, _, _, h'⟩ := h.open_n PL hPL; injection hv with hv _ hvc; subst hv; subst hvc; exact run_text (P := Try.prog) (c := c) h' 28 5 9 Try.underlying28 Try.underlying5 Try.underlying9))
  clear hPL hT
  have HRW2 := HRW.out
  rcases HRW2 with ⟨rfl, rfl⟩ | ⟨rfl, rfl⟩
  all_goals
    go_wp2_with (first | ((with_reducible refine at_sth ?_); refine st_hd V5.heap.size (hdL .zero .nil) Gp (by rfl) (by rfl) hNp rfl HGLp.out hGop ?_; intro U5 hAp hkp; have hbs := hkp.below hbz hbz.size (by intro j hj; subst hj; exact Nat.le_refl _); have hRq := hRq.below hbs hRq.lt; have hKK := hKK.below hbs hKK.lt; have hr := (hr.below hbs).more hbs.size; have hFu := hFu.below hbs; have hou := hou.below hbs (Nat.le_refl _); have hAu := hAu.below hbs hAu.lt; have hFru := hFru.below hbs; have horu := horu.below hbs (Nat.le_refl _); have hAru := hAru.below hbs hAru.lt; have hFv := hFv.below hbs; have hAv := hAv.below hbs hAv.lt; have hFrv := hFrv.below hbs; have hArv := hArv.below hbs hArv.lt; have hbt := hbt.trans (hbs.mono hbt.size); clear hbz hbs hkp hNp; have tx1 := HTX.out _ _ _ hou; have tx2 := HTY.out _ _ _ horu) | ((with_reducible refine at_ldh (x := .tmp 10) ?_); refine ld_off_g V0.heap.size 0 Gu _ (by rfl) (by rfl) hAu.rangeAt Try.underlying30 rfl (by rw [HGLu.out]; exact hd_info) ?_) | ((with_reducible refine at_ldh (x := .tmp 14) ?_); refine ld_off_g V1.heap.size 0 Gru _ (by rfl) (by rfl) hAru.rangeAt Try.underlying30 rfl (by rw [HGLru.out]; exact hd_info) ?_) | fail)
    have HS1 := (show Calls Try.prog 17 #[.agg Gu.toArray, .agg Gru.toArray] U5 (FrPost (.bool true) U5) from by rw [← HVVu.out, ← HVVru.out]; exact HSM.out _ _ _ _ U5 hFu hFru)
    refine HS1.mono ?_
    rintro e W6 ⟨rfl, hb6⟩
    have hRq := hRq.below hb6 hRq.lt
    have hKK := hKK.below hb6 hKK.lt
    have hr := (hr.below hb6).more hb6.size
    have hFu := hFu.below hb6
    have hou := hou.below hb6 (Nat.le_refl _)
    have hAu := hAu.below hb6 hAu.lt
    have hFru := hFru.below hb6
    have horu := horu.below hb6 (Nat.le_refl _)
    have hAru := hAru.below hb6 hAru.lt
    have hFv := hFv.below hb6
    have hAv := hAv.below hb6 hAv.lt
    have hFrv := hFrv.below hb6
    have hArv := hArv.below hb6 hArv.lt
    have hbt := hbt.trans (hb6.mono hbt.size)
    clear hb6 HS1 tx1 tx2
    have tx1 := HTX.out _ _ _ hou
    have tx2 := HTY.out _ _ _ horu
    go_wp2_with (first | ((with_reducible refine at_ldh (x := .tmp 18) ?_); refine ld_off_g V2.heap.size 0 Gv _ (by rfl) (by rfl) hAv.rangeAt Try.underlying30 rfl (by rw [HGLv.out]; exact hd_info) ?_) | ((with_reducible refine at_ldh (x := .tmp 21) ?_); refine ld_off_g V3.heap.size 0 Grv _ (by rfl) (by rfl) hArv.rangeAt Try.underlying30 rfl (by rw [HGLrv.out]; exact hd_info) ?_) | fail)
    have HS2 := (show Calls Try.prog 17 #[.agg Gv.toArray, .agg Grv.toArray] W6 (FrPost (.bool true) W6) from by rw [← HVVv.out, ← HVVrv.out]; exact HSR.out _ _ _ _ W6 hFv hFrv)
    refine HS2.mono ?_
    rintro e W7 ⟨rfl, hb7⟩
    have hbt := hbt.trans (hb7.mono hbt.size)
    go_wp2_with fail
    go_ret
    exact ⟨rfl, hbt⟩
end Go.Proofs.Ytehdilgnlhhjdaa
