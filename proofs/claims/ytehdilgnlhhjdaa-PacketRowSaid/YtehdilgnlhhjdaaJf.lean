/-
  packet.Unprotect.
-/
import Derived.Test.YtehdilgnlhhjdaaMq16
namespace Go.Proofs.Ytehdilgnlhhjdaa
set_option linter.unusedVariables false
set_option linter.unusedSimpArgs false
open Go.RowKit Go.ChangeShapes Go.WideShapes Go.Deep
/-- What Unprotect answers. -/
def UnpPost (sk mk l : Int) (has : Bool) (bs : List Int) (w : World) (e : Ending) (w' : World) : Prop :=
  ∃ d v, e = .returned (.tuple #[hdV (unpS sk mk l has bs).1 d, .int .u64 (unpS sk mk l has bs).2.2.1, v, .int .i64 (unpS sk mk l has bs).2.2.2.2]) ∧ InD w' (fun b => w.heap.size ≤ b) d (unpS sk mk l has bs).2.1 ∧ (unpS sk mk l has bs).1.wf ∧
    Own w' w.heap.size 5 v (unpS sk mk l has bs).2.2.2.1 ∧ Below w.heap.size w w'
theorem UnpPost.no {sk mk l : Int} {has : Bool} {bs : List Int} {w w' : World} {why : Int} (h : unpS sk mk l has bs = (.zero, [], 0, [], why)) (hb : Below w.heap.size w w') : UnpPost sk mk l has bs w (.returned (.tuple #[.agg (hdL .zero .nil).toArray, .int .u64 0, .slice none 0 0, .int .i64 why])) w' := by
  unfold UnpPost; rw [h]; exact ⟨.nil, _, rfl, inD_nil _ _, HN.zero_wf, Own.none_ _ _ _, hb⟩
theorem wholeS_bd (l : Int) (has : Bool) (low k : Int) (l0 : 0 ≤ l) (h0 : 0 ≤ low) (h1 : low < 4294967296) : 0 ≤ wholeS l has low k ∧ wholeS l has low k < 18446744073709551616 := by
  unfold wholeS upS follS
  rcases pW_four k with h | h | h | h
  · rw [(win_of k).1 h]; cases has <;> simp only [if_true, if_false, Bool.false_eq_true] <;> (repeat' split) <;> omega
  · rw [(win_of k).2.1 h]; cases has <;> simp only [if_true, if_false, Bool.false_eq_true] <;> (repeat' split) <;> omega
  · rw [(win_of k).2.2.1 h]; cases has <;> simp only [if_true, if_false, Bool.false_eq_true] <;> (repeat' split) <;> omega
  · rw [(win_of k).2.2.2 h]; cases has <;> simp only [if_true, if_false, Bool.false_eq_true] <;> (repeat' split) <;> omega
set_option maxRecDepth 100000 in
set_option maxHeartbeats 4000000 in
theorem unprotect_none (sk mk l : Int) (has : Bool) (A : Option Addr) (n c : Nat) (bs : List Int) (w : World) (hr : Rd w w.heap.size A n bs) (hn : n ≤ 1000000) (hnc : n ≤ c) (hcm : c ≤ maxLen) (hA : A = none → c = 0) (s0 : 0 ≤ sk) (s1 : sk < 18446744073709551616) (k0 : 0 ≤ mk) (k1 : mk < 18446744073709551616) (l0 : 0 ≤ l) (l1 : l < 18446744073709551616) (h : revS mk bs = none) :
    Calls Try.prog 16 #[.agg (kL sk mk).toArray, .slice A n c, .int .u64 l, .bool has] w (UnpPost sk mk l has bs w) := by
  have hK0 : At (w.alloc (.cells (kL sk mk).toArray 40)) w.heap.size 40 (kL sk mk) := At.new w 40 _
  have hb0 : Below w.heap.size w (w.alloc (.cells (kL sk mk).toArray 40)) := (Below.refl _ _).alloc (Nat.le_refl _) _
  have hby := hr.2.1
  have HU := Lib.hid (fun W (h : Rd W W.heap.size A n bs) => unmask_any sk mk A n c bs W h hn hnc hcm hA k0 k1)
  have hK00 : (kL sk mk)[0]? = some (.int .u64 sk) := rfl
  obtain ⟨K, hK⟩ : ∃ K, kL sk mk = K := ⟨_, rfl⟩
  have hKl : K.length = 2 := by rw [← hK]; rfl
  rw [hK] at hK0 hb0 HU hK00 ⊢
  obtain ⟨w1, hw1⟩ : ∃ x, w.alloc (.cells K.toArray 40) = x := ⟨_, rfl⟩
  rw [hw1] at hK0 hb0
  have hH0 : At (w1.alloc (.cells #[.int .i64 0, .int .u8 0, .int .u8 0, .int .u8 0, .int .u8 0, .int .u8 0, .int .u8 0, .int .u8 0, .int .u8 0, .int .u8 0, .int .u8 0, .int .u8 0, .int .u8 0, .int .u8 0, .int .u8 0, .int .u8 0, .int .u8 0, .slice none 0 0, .int .i64 0, .bool false] 30)) w1.heap.size 30 (hdL .zero .nil) := At.new w1 30 (hdL .zero .nil)
  have hK1 := hK0.alloc (.cells #[.int .i64 0, .int .u8 0, .int .u8 0, .int .u8 0, .int .u8 0, .int .u8 0, .int .u8 0, .int .u8 0, .int .u8 0, .int .u8 0, .int .u8 0, .int .u8 0, .int .u8 0, .int .u8 0, .int .u8 0, .int .u8 0, .int .u8 0, .slice none 0 0, .int .i64 0, .bool false] 30)
  have hb1 := hb0.alloc hb0.size (.cells #[.int .i64 0, .int .u8 0, .int .u8 0, .int .u8 0, .int .u8 0, .int .u8 0, .int .u8 0, .int .u8 0, .int .u8 0, .int .u8 0, .int .u8 0, .int .u8 0, .int .u8 0, .int .u8 0, .int .u8 0, .int .u8 0, .int .u8 0, .slice none 0 0, .int .i64 0, .bool false] 30)
  have hlt0 := hK0.lt
  obtain ⟨w2, hw2⟩ : ∃ x, w1.alloc (.cells #[.int .i64 0, .int .u8 0, .int .u8 0, .int .u8 0, .int .u8 0, .int .u8 0, .int .u8 0, .int .u8 0, .int .u8 0, .int .u8 0, .int .u8 0, .int .u8 0, .int .u8 0, .int .u8 0, .int .u8 0, .int .u8 0, .int .u8 0, .slice none 0 0, .int .i64 0, .bool false] 30) = x := ⟨_, rfl⟩
  rw [hw2] at hH0 hK1 hb1
  have hr2 := (hr.below hb1).more hb1.size
  have hlt2 := hH0.lt
  have HKL := Lib.hid hKl
  have HK00 := Lib.hid hK00
  clear hKl hr hK hK00
  have hun : unpS sk mk l has bs = (.zero, [], 0, [], 12) := by unfold unpS; rw [h]
  have HO := Lib.hid (show outS mk bs = (HN.zero, [], 0, 12) by unfold outS; rw [h])
  go_enter Try.func16, Try.ntmps16
  go_wp2_with (first | ((with_reducible refine at_ldk ?_); refine ld_kt w.heap.size K (by rfl) hK1 HKL.out ?_) | fail)
  refine (HU.out w2 hr2).mono ?_
  intro e w3 hup
  have hup2 := hup.open_ hby
  rw [HO.out] at hup2
  obtain ⟨d, s, t, rfl, hd, hwf, hlow, hst, hb3⟩ := hup2
  simp only at hd hwf hlow
  have hP3 : At (w3.alloc (.cells #[.int .i64 0, .int .u8 0, .int .u8 0, .int .u8 0, .int .u8 0, .int .u8 0, .int .u8 0, .int .u8 0, .int .u8 0, .int .u8 0, .int .u8 0, .int .u8 0, .int .u8 0, .int .u8 0, .int .u8 0, .int .u8 0, .int .u8 0, .slice none 0 0, .int .i64 0, .bool false, .int .u32 0, .slice none 0 0, .slice none 0 0] 80)) w3.heap.size 80 (plL .zero .nil 0 .nil .nil) := At.new w3 80 (plL .zero .nil 0 .nil .nil)
  have hH3 := (hH0.below hb3 hH0.lt).alloc (.cells #[.int .i64 0, .int .u8 0, .int .u8 0, .int .u8 0, .int .u8 0, .int .u8 0, .int .u8 0, .int .u8 0, .int .u8 0, .int .u8 0, .int .u8 0, .int .u8 0, .int .u8 0, .int .u8 0, .int .u8 0, .int .u8 0, .int .u8 0, .slice none 0 0, .int .i64 0, .bool false, .int .u32 0, .slice none 0 0, .slice none 0 0] 80)
  have hK3 := (hK1.below hb3 hK1.lt).alloc (.cells #[.int .i64 0, .int .u8 0, .int .u8 0, .int .u8 0, .int .u8 0, .int .u8 0, .int .u8 0, .int .u8 0, .int .u8 0, .int .u8 0, .int .u8 0, .int .u8 0, .int .u8 0, .int .u8 0, .int .u8 0, .int .u8 0, .int .u8 0, .slice none 0 0, .int .i64 0, .bool false, .int .u32 0, .slice none 0 0, .slice none 0 0] 80)
  have hb4 := (hb1.trans (hb3.mono hb1.size)).alloc (by have := hb1.size; have := hb3.size; omega) (.cells #[.int .i64 0, .int .u8 0, .int .u8 0, .int .u8 0, .int .u8 0, .int .u8 0, .int .u8 0, .int .u8 0, .int .u8 0, .int .u8 0, .int .u8 0, .int .u8 0, .int .u8 0, .int .u8 0, .int .u8 0, .int .u8 0, .int .u8 0, .slice none 0 0, .int .i64 0, .bool false, .int .u32 0, .slice none 0 0, .slice none 0 0] 80)
  have hQ3 : Kept (fun j => w3.heap.size ≤ j) w3 (w3.alloc (.cells #[.int .i64 0, .int .u8 0, .int .u8 0, .int .u8 0, .int .u8 0, .int .u8 0, .int .u8 0, .int .u8 0, .int .u8 0, .int .u8 0, .int .u8 0, .int .u8 0, .int .u8 0, .int .u8 0, .int .u8 0, .int .u8 0, .int .u8 0, .slice none 0 0, .int .i64 0, .bool false, .int .u32 0, .slice none 0 0, .slice none 0 0] 80)) := (Kept.refl _ _).alloc _
  have hle3 := hb3.size
  have hle1 := hb1.size
  have hvv : plV HN.zero d 0 s t = .agg (plL HN.zero d 0 s t).toArray := rfl
  simp only [hvv]
  have hLo : (plL HN.zero d 0 s t).all (·.oneCell') = true := rfl
  obtain ⟨L, hL⟩ : ∃ L, plL HN.zero d 0 s t = L := ⟨_, rfl⟩
  have hLl : L.length = 23 := by rw [← hL]; rfl
  rw [hL] at hLo ⊢
  have HLL := Lib.hid hLl
  clear hL hLl hvv hst
  go_wp2_with (first | ((with_reducible refine at_stp ?_); refine st_pl w3.heap.size (plL .zero .nil 0 .nil .nil) L (by rfl) (by rfl) hP3 rfl HLL.out hLo ?_; intro w4 hP4 hk4) | ((with_reducible refine at_sth ?_); refine st_hd w1.heap.size (hdL .zero .nil) (hdL .zero .nil) (by rfl) (by rfl) (hH3.kept hk4 (by omega)) rfl rfl (by rfl) ?_; intro w5 hH5 hk5) | fail)
  have hb5 := hk4.below hb4 hb4.size (by intro j hj; subst hj; omega)
  have hb6 := hk5.below hb5 hb5.size (by intro j hj; subst hj; omega)
  refine bodyPost_ret (results_cell_tmp3 8 9 10 11 30 (by rfl) _ 30 _ _ _ _ _ (by rfl) (by rfl) (by rfl) (by rfl) hH5 Try.underlying30 rfl hd_info) rfl ?_
  exact UnpPost.no hun hb6
theorem Sld.keptS {S : Nat → Prop} {w w' : World} {s : Sl} {bs : List Int} (h : Sld w s bs) (k : Kept S w w') (hs : ∀ b off, 0 < s.n → s.A = some ⟨b, off, none⟩ → ¬ S b) : Sld w' s bs :=
  ⟨(RdP.kept (P := fun b => ∃ off, 0 < s.n ∧ s.A = some ⟨b, off, none⟩) ⟨h.rd, fun b off h1 h2 => ⟨off, h1, h2⟩⟩ k (fun b ⟨off, h1, h2⟩ => hs b off h1 h2)).1, h.lc, h.cm⟩
theorem Sld.lt {w : World} {s : Sl} {bs : List Int} (h : Sld w s bs) : ∀ b off, 0 < s.n → s.A = some ⟨b, off, none⟩ → b < w.heap.size := fun b off h1 h2 => by
  obtain ⟨b', off', e, hb, _⟩ := h.rd.2.2 h1
  rw [h2] at e
  injection e with e
  injection e with e
  subst e; exact hb
/-- What stays while the first byte is looked at. -/
structure UoS (gp : Nat) (G : List Value) (sb so sn sc : Nat) (y : Int) (W : World) : Prop where
  h : W.rangeAt gp 0 G
  c : W.cell? ⟨gp, 21, none⟩ = some (.slice (some ⟨sb, so, none⟩) sn sc)
  b : W.cell? ⟨sb, so, none⟩ = some (.int .u8 y)
theorem UoS.below {gp : Nat} {G : List Value} {sb so sn sc : Nat} {y : Int} {T : TypeId} {r : List Value} {W W' : World} (h : UoS gp G sb so sn sc y W) (hA : At W gp T (G ++ r)) (k : Below W.heap.size W W') : UoS gp G sb so sn sc y W' := ⟨At.pre (hA.below k hA.lt), cell_below h.c k, cell_below h.b k⟩
set_option maxRecDepth 100000 in
set_option maxHeartbeats 8000000 in
theorem unprotect_some (sk mk l : Int) (has : Bool) (A : Option Addr) (n c : Nat) (bs : List Int) (w : World) (hr : Rd w w.heap.size A n bs) (hn : n ≤ 1000000) (hnc : n ≤ c) (hcm : c ≤ maxLen) (hA : A = none → c = 0) (s0 : 0 ≤ sk) (s1 : sk < 18446744073709551616) (k0 : 0 ≤ mk) (k1 : mk < 18446744073709551616) (l0 : 0 ≤ l) (l1 : l < 18446744073709551616) (r : Rev) (h : revS mk bs = some r) :
    Calls Try.prog 16 #[.agg (kL sk mk).toArray, .slice A n c, .int .u64 l, .bool has] w (UnpPost sk mk l has bs w) := by
  obtain ⟨r1, r2, r3, r4, r5, r6, r7, r8, r9, r10, _, _⟩ := rev_bd mk bs r h hr.2.1
  have hrl := hr.1
  have hK0 : At (w.alloc (.cells (kL sk mk).toArray 40)) w.heap.size 40 (kL sk mk) := At.new w 40 _
  have hb0 : Below w.heap.size w (w.alloc (.cells (kL sk mk).toArray 40)) := (Below.refl _ _).alloc (Nat.le_refl _) _
  have hby := hr.2.1
  have HU := Lib.hid (fun W (h : Rd W W.heap.size A n bs) => unmask_any sk mk A n c bs W h hn hnc hcm hA k0 k1)
  have hK00 : (kL sk mk)[0]? = some (.int .u64 sk) := rfl
  obtain ⟨K, hK⟩ : ∃ K, kL sk mk = K := ⟨_, rfl⟩
  have hKl : K.length = 2 := by rw [← hK]; rfl
  rw [hK] at hK0 hb0 HU hK00 ⊢
  obtain ⟨w1, hw1⟩ : ∃ x, w.alloc (.cells K.toArray 40) = x := ⟨_, rfl⟩
  rw [hw1] at hK0 hb0
  have hH0 : At (w1.alloc (.cells #[.int .i64 0, .int .u8 0, .int .u8 0, .int .u8 0, .int .u8 0, .int .u8 0, .int .u8 0, .int .u8 0, .int .u8 0, .int .u8 0, .int .u8 0, .int .u8 0, .int .u8 0, .int .u8 0, .int .u8 0, .int .u8 0, .int .u8 0, .slice none 0 0, .int .i64 0, .bool false] 30)) w1.heap.size 30 (hdL .zero .nil) := At.new w1 30 (hdL .zero .nil)
  have hK1 := hK0.alloc (.cells #[.int .i64 0, .int .u8 0, .int .u8 0, .int .u8 0, .int .u8 0, .int .u8 0, .int .u8 0, .int .u8 0, .int .u8 0, .int .u8 0, .int .u8 0, .int .u8 0, .int .u8 0, .int .u8 0, .int .u8 0, .int .u8 0, .int .u8 0, .slice none 0 0, .int .i64 0, .bool false] 30)
  have hb1 := hb0.alloc hb0.size (.cells #[.int .i64 0, .int .u8 0, .int .u8 0, .int .u8 0, .int .u8 0, .int .u8 0, .int .u8 0, .int .u8 0, .int .u8 0, .int .u8 0, .int .u8 0, .int .u8 0, .int .u8 0, .int .u8 0, .int .u8 0, .int .u8 0, .int .u8 0, .slice none 0 0, .int .i64 0, .bool false] 30)
  have hlt0 := hK0.lt
  obtain ⟨w2, hw2⟩ : ∃ x, w1.alloc (.cells #[.int .i64 0, .int .u8 0, .int .u8 0, .int .u8 0, .int .u8 0, .int .u8 0, .int .u8 0, .int .u8 0, .int .u8 0, .int .u8 0, .int .u8 0, .int .u8 0, .int .u8 0, .int .u8 0, .int .u8 0, .int .u8 0, .int .u8 0, .slice none 0 0, .int .i64 0, .bool false] 30) = x := ⟨_, rfl⟩
  rw [hw2] at hH0 hK1 hb1
  have hr2 := (hr.below hb1).more hb1.size
  have hlt2 := hH0.lt
  have HKL := Lib.hid hKl
  have HK00 := Lib.hid hK00
  clear hKl hr hK hK00
  have HO := Lib.hid (show outS mk bs = (r.m, r.tok, r.low, 0) by unfold outS; rw [h])
  have hWb := wholeS_bd l has r.low r.m.w l0 r3 r4
  have HWH := Lib.hid (fun W => whole_any l has r.low r.m.w W l0 l1 r3 r4 (by omega) (by omega))
  have hun0 : unpS sk mk l has bs = (if openB sk (wholeS l has r.low r.m.w) (r.x.take r.at_) (r.x.drop r.at_) = false then (.zero, [], 0, [], 25)
    else if andB (r.x.getD 0 0) (if r.m.s = 2 then 24 else 12) = 0 then (r.m, r.tok, wholeS l has r.low r.m.w, openS sk (wholeS l has r.low r.m.w) (r.x.take r.at_) (r.x.drop r.at_), 0)
    else (.zero, [], 0, [], 14)) := by unfold unpS; rw [h]
  have hx0 : (r.x.take r.at_).getD 0 0 = r.x.getD 0 0 := by rw [List.getD_eq_getElem?_getD, List.getD_eq_getElem?_getD, List.getElem?_take_of_lt (by omega)]
  obtain ⟨N, hN⟩ : ∃ N, wholeS l has r.low r.m.w = N := ⟨_, rfl⟩
  rw [hN] at hWb HWH hun0
  obtain ⟨hdS, hS⟩ : ∃ x, r.x.take r.at_ = x := ⟨_, rfl⟩
  obtain ⟨hdT, hT⟩ : ∃ x, r.x.drop r.at_ = x := ⟨_, rfl⟩
  have hSl : hdS.length = r.at_ := by rw [← hS, List.length_take]; omega
  have hTl : hdT.length ≤ 1000000 := by rw [← hT, List.length_drop]; omega
  rw [hS] at hx0
  rw [hS, hT] at hun0
  go_enter Try.func16, Try.ntmps16
  go_wp2_with (first | ((with_reducible refine at_ldk ?_); refine ld_kt w.heap.size K (by rfl) hK1 HKL.out ?_) | fail)
  refine (HU.out w2 hr2).mono ?_
  intro e w3 hup
  have hup2 := hup.open_ hby
  rw [HO.out] at hup2
  obtain ⟨d, s, t, rfl, hd, hwf, hlow, hst, hb3⟩ := hup2
  simp only at hd hwf hlow
  have hP3 : At (w3.alloc (.cells #[.int .i64 0, .int .u8 0, .int .u8 0, .int .u8 0, .int .u8 0, .int .u8 0, .int .u8 0, .int .u8 0, .int .u8 0, .int .u8 0, .int .u8 0, .int .u8 0, .int .u8 0, .int .u8 0, .int .u8 0, .int .u8 0, .int .u8 0, .slice none 0 0, .int .i64 0, .bool false, .int .u32 0, .slice none 0 0, .slice none 0 0] 80)) w3.heap.size 80 (plL .zero .nil 0 .nil .nil) := At.new w3 80 (plL .zero .nil 0 .nil .nil)
  have hH3 := (hH0.below hb3 hH0.lt).alloc (.cells #[.int .i64 0, .int .u8 0, .int .u8 0, .int .u8 0, .int .u8 0, .int .u8 0, .int .u8 0, .int .u8 0, .int .u8 0, .int .u8 0, .int .u8 0, .int .u8 0, .int .u8 0, .int .u8 0, .int .u8 0, .int .u8 0, .int .u8 0, .slice none 0 0, .int .i64 0, .bool false, .int .u32 0, .slice none 0 0, .slice none 0 0] 80)
  have hK3 := (hK1.below hb3 hK1.lt).alloc (.cells #[.int .i64 0, .int .u8 0, .int .u8 0, .int .u8 0, .int .u8 0, .int .u8 0, .int .u8 0, .int .u8 0, .int .u8 0, .int .u8 0, .int .u8 0, .int .u8 0, .int .u8 0, .int .u8 0, .int .u8 0, .int .u8 0, .int .u8 0, .slice none 0 0, .int .i64 0, .bool false, .int .u32 0, .slice none 0 0, .slice none 0 0] 80)
  have hb4 := (hb1.trans (hb3.mono hb1.size)).alloc (by have := hb1.size; have := hb3.size; omega) (.cells #[.int .i64 0, .int .u8 0, .int .u8 0, .int .u8 0, .int .u8 0, .int .u8 0, .int .u8 0, .int .u8 0, .int .u8 0, .int .u8 0, .int .u8 0, .int .u8 0, .int .u8 0, .int .u8 0, .int .u8 0, .int .u8 0, .int .u8 0, .slice none 0 0, .int .i64 0, .bool false, .int .u32 0, .slice none 0 0, .slice none 0 0] 80)
  have hQ3 : Kept (fun j => w3.heap.size ≤ j) w3 (w3.alloc (.cells #[.int .i64 0, .int .u8 0, .int .u8 0, .int .u8 0, .int .u8 0, .int .u8 0, .int .u8 0, .int .u8 0, .int .u8 0, .int .u8 0, .int .u8 0, .int .u8 0, .int .u8 0, .int .u8 0, .int .u8 0, .int .u8 0, .int .u8 0, .slice none 0 0, .int .i64 0, .bool false, .int .u32 0, .slice none 0 0, .slice none 0 0] 80)) := (Kept.refl _ _).alloc _
  have hle3 := hb3.size
  have hle1 := hb1.size
  obtain ⟨hs, ht⟩ := hst r h
  rw [hS] at hs
  rw [hT] at ht
  have hvv : plV r.m d r.low s t = .agg (plL r.m d r.low s t).toArray := rfl
  simp only [hvv]
  have hLo : (plL r.m d r.low s t).all (·.oneCell') = true := rfl
  have hc18 : (plL r.m d r.low s t)[18]? = some (.int .i64 r.m.w) := rfl
  have hc20 : (plL r.m d r.low s t)[20]? = some (.int .u32 r.low) := rfl
  have hc21 : (plL r.m d r.low s t)[21]? = some (.slice s.A s.n s.c) := rfl
  have hc22 : (plL r.m d r.low s t)[22]? = some (.slice t.A t.n t.c) := rfl
  have hLa : plL r.m d r.low s t = hdL r.m d ++ [.int .u32 r.low, .slice s.A s.n s.c, .slice t.A t.n t.c] := rfl
  obtain ⟨L, hL⟩ : ∃ L, plL r.m d r.low s t = L := ⟨_, rfl⟩
  have hLl : L.length = 23 := by rw [← hL]; rfl
  rw [hL] at hLo hc18 hc20 hc21 hc22 hLa ⊢
  have HKP := Lib.hid (fun W => pkept_any r.m d W hwf)
  have hvm : hdV r.m d = .agg (hdL r.m d).toArray := rfl
  rw [hvm] at HKP
  have hGo : (hdL r.m d).all (·.oneCell') = true := rfl
  obtain ⟨G, hG⟩ : ∃ G, hdL r.m d = G := ⟨_, rfl⟩
  have hGl : G.length = 20 := by rw [← hG]; rfl
  rw [hG] at hLa HKP hvm hGo
  have HVM := Lib.hid hvm
  have HLL := Lib.hid hLl
  have HGL := Lib.hid hGl
  obtain ⟨sA, sn, sc⟩ := s
  obtain ⟨tA, tn, tc⟩ := t
  have HLA := Lib.hid hLa
  clear hLa
  have hsn : sn = r.at_ := by rw [← hSl]; exact hs.rd.1.symm
  obtain ⟨sb, so, hsA, hsb, hscell⟩ := hs.rd.2.2 (by show 0 < sn; omega)
  simp only at hsA
  subst hsA
  have hy0 := hscell 0 (by show 0 < sn; omega)
  rw [hx0, Nat.add_zero] at hy0
  have htn : tn ≤ 1000000 := by have := ht.rd.1; simp only at this; omega
  have HOP := Lib.hid (fun W (h1 : Rd W W.heap.size (some ⟨sb, so, none⟩) sn hdS) (h2 : Rd W W.heap.size tA tn hdT) => open_any sk N (some ⟨sb, so, none⟩) sn sc hdS tA tn tc hdT W h1 h2 hs.lc hs.cm ht.lc ht.cm (by omega) s0 s1 hWb.1 hWb.2)
  obtain ⟨y, hy⟩ : ∃ y, r.x.getD 0 0 = y := ⟨_, rfl⟩
  rw [hy] at hy0 hun0
  have HSN := Lib.hid hsn
  clear hLl hGl hvv hL hG hvm hscell hx0 hy hst hsn
  go_wp2_with (first | ((with_reducible refine at_stp ?_); refine st_pl w3.heap.size (plL .zero .nil 0 .nil .nil) L (by rfl) (by rfl) hP3 rfl HLL.out hLo ?_; intro w4 hP4 hk4; have hx18 := (show w4.cell? ⟨w3.heap.size, 18, none⟩ = some (.int .i64 r.m.w) by rw [hP4.cell 18]; exact hc18); have hx20 := (show w4.cell? ⟨w3.heap.size, 20, none⟩ = some (.int .u32 r.low) by rw [hP4.cell 20]; exact hc20); have hx21 := (show w4.cell? ⟨w3.heap.size, 21, none⟩ = some (.slice (some ⟨sb, so, none⟩) sn sc) by rw [hP4.cell 21]; exact hc21); have hx22 := (show w4.cell? ⟨w3.heap.size, 22, none⟩ = some (.slice tA tn tc) by rw [hP4.cell 22]; exact hc22); have hx0k := (show w4.cell? ⟨w.heap.size, 0, none⟩ = some (.int .u64 sk) by rw [(hK3.kept hk4 (by omega)).cell 0]; exact HK00.out)) | fail)
  refine (HWH.out w4).mono ?_
  rintro e w4' ⟨rfl, rfl⟩
  have hQ4 := hQ3.trans (hk4.mono (fun j hj => .inl (by omega)))
  have hH4 := hH3.kept hk4 (by omega)
  have hs4 := (hs.below ((Below.refl _ _).alloc (Nat.le_refl _) (.cells #[.int .i64 0, .int .u8 0, .int .u8 0, .int .u8 0, .int .u8 0, .int .u8 0, .int .u8 0, .int .u8 0, .int .u8 0, .int .u8 0, .int .u8 0, .int .u8 0, .int .u8 0, .int .u8 0, .int .u8 0, .int .u8 0, .int .u8 0, .slice none 0 0, .int .i64 0, .bool false, .int .u32 0, .slice none 0 0, .slice none 0 0] 80))).keptS hk4 (fun b off h1 h2 hh => by have := hs.lt b off h1 h2; have h9 : b = w3.heap.size := hh; omega)
  have ht4 := (ht.below ((Below.refl _ _).alloc (Nat.le_refl _) (.cells #[.int .i64 0, .int .u8 0, .int .u8 0, .int .u8 0, .int .u8 0, .int .u8 0, .int .u8 0, .int .u8 0, .int .u8 0, .int .u8 0, .int .u8 0, .int .u8 0, .int .u8 0, .int .u8 0, .int .u8 0, .int .u8 0, .int .u8 0, .slice none 0 0, .int .i64 0, .bool false, .int .u32 0, .slice none 0 0, .slice none 0 0] 80))).keptS hk4 (fun b off h1 h2 hh => by have := ht.lt b off h1 h2; have h9 : b = w3.heap.size := hh; omega)
  have hxb := (show w4.cell? ⟨sb, so, none⟩ = some (.int .u8 y) by rw [hQ4.cell (p := ⟨sb, so, none⟩) (cell_lt hy0) (by show ¬ (w3.heap.size ≤ sb); have h1 := cell_lt hy0; omega)]; exact hy0)
  go_wp2_with fail
  refine (HOP.out w4 hs4.rd ht4.rd).mono ?_
  rintro e w5 ⟨v, rfl, ho5, hb5⟩
  have hP5 := hP4.below hb5 hP4.lt
  have hH5 := hH4.below hb5 hH4.lt
  have hQ5 := hQ4.trans (Kept.of_below hb5 _)
  have hsz4 := hQ4.size
  have hsz5 := hQ5.size
  have hxb5 := cell_below hxb hb5
  have hx215 := cell_below hx21 hb5
  have ho5' := ho5.base_ (show w.heap.size ≤ w4.heap.size by omega)
  have hbw := hb1.trans (hb3.mono hb1.size)
  have hbf : ∀ w', Kept (· = w1.heap.size) w5 w' → Below w.heap.size w w' := fun w' k => k.below ((Kept.mono hQ5 (S' := fun j => w3.heap.size ≤ j) (fun j hj => .inl hj)).below hbw (by omega) (by intro j hj; omega)) (by omega) (by intro j hj; omega)
  have hdf : ∀ w', Kept (· = w1.heap.size) w5 w' → InD w' (fun b => w.heap.size ≤ b) d r.tok := fun w' k => by
    have hd3 := hd.mono (P' := fun b => w2.heap.size ≤ b ∧ b < w3.heap.size) (fun b h1 h2 => ⟨h2, h1⟩)
    have hd5 := hd3.kept hQ5 (fun b hb hh => by have h9 : w2.heap.size ≤ b ∧ b < w3.heap.size := hb; have h7 : w3.heap.size ≤ b := hh; omega)
    have hd6 := hd5.kept k (fun b hb hh => by have h9 : w2.heap.size ≤ b ∧ b < w3.heap.size := hb; have h7 : b = w1.heap.size := hh; omega)
    exact hd6.mono (fun b _ hb => by have h9 : w2.heap.size ≤ b ∧ b < w3.heap.size := hb; show w.heap.size ≤ b; omega)
  have hvf : ∀ w', Kept (· = w1.heap.size) w5 w' → Own w' w.heap.size 5 v (openS sk N hdS hdT) := fun w' k => (ho5.kept k (fun j hj hh => by have h1 := ho5.block_lt j hj; have h7 : j = w1.heap.size := hh; omega)).base_ (by omega)
  have HBF := Lib.hid (And.intro hbf (And.intro hdf hvf))
  have HUN := Lib.hid hun0
  have hrw := HLA.out
  rw [hrw] at hP5
  clear hbf hdf hvf hun0 hs4 ht4 hs ht hd hQ3 hQ4 hk4 hP4 hH4 hH3 hP3 hK3 hb4 hx18 hx20 hx22 hx0k hx21 hxb hrw ho5 ho5'
  cases hB : openB sk N hdS hdT with
  | false =>
    have hun : unpS sk mk l has bs = (.zero, [], 0, [], 25) := by rw [HUN.out, if_pos hB]
    clear hB
    go_wp2_with (first | ((with_reducible refine at_sth ?_); refine st_hd w1.heap.size (hdL .zero .nil) (hdL .zero .nil) (by rfl) (by rfl) hH5 rfl rfl (by rfl) ?_; intro w6 hH6 hk6) | fail)
    refine bodyPost_ret (results_cell_tmp3 8 9 10 11 30 (by rfl) _ 30 _ _ _ _ _ (by rfl) (by rfl) (by rfl) (by rfl) hH6 Try.underlying30 rfl hd_info) rfl ?_
    exact UnpPost.no hun (HBF.out.1 _ hk6)
  | true =>
    have hun : unpS sk mk l has bs = (if andB y (if r.m.s = 2 then 24 else 12) = 0 then (r.m, r.tok, N, openS sk N hdS hdT, 0) else (.zero, [], 0, [], 14)) := by rw [HUN.out, if_neg (by rw [hB]; decide)]
    clear hB
    obtain ⟨kv, hkv⟩ : ∃ k, (if r.m.s = 2 then (24 : Int) else 12) = k := ⟨_, rfl⟩
    have HKP2 := HKP.out
    rw [hkv] at hun HKP2
    have HKQ := Lib.hid HKP2
    obtain ⟨q, hq⟩ : ∃ q, andB y kv = q := ⟨_, rfl⟩
    rw [hq] at hun
    have HUN2 := Lib.hid hun
    have hq2 : bits BinOp.and IntKind.u8 y kv = q := hq
    have HQ2 := Lib.hid hq2
    clear hun hq hq2 HKP2 hkv
    go_wp2_with fail
    have hP6 := hP5.drew
    have hH6 := hH5.drew
    have hS6 : UoS w3.heap.size G sb so sn sc y w5.drew := ⟨At.pre hP6, hx215, hxb5⟩
    obtain ⟨Y, hY⟩ : ∃ x, w5.drew = x := ⟨_, rfl⟩
    have HBFY := Lib.hid (show (∀ w', Kept (· = w1.heap.size) Y w' → Kept (· = w1.heap.size) w5 w') from fun w' k => by rw [← hY] at k; exact k.from_drew)
    rw [hY] at hP6 hH6 hS6
    clear hP5 hH5 hx215 hxb5
    refine wp_region_held_drew (S := (UoS w3.heap.size G sb so sn sc y)) (by kernel_rfl) (by rw [hY]; exact hS6) (fun hHeld => ?_)
    rw [hY] at hHeld ⊢
    clear hY
    refine tkq 0 (some 49) (v := ?_) rfl (Or.inl ⟨by rfl, ?_⟩) (by assumption) ?_
    rotate_left
    · intro w hSw; (try dsimp only at hSw); go_simp; first | done | (with_reducible rfl)
    simp only [Act.put, List.setIfInBounds_toArray, List.set_cons_zero, List.set_cons_succ]
    refine tkq 1 (some 50) (v := ?_) rfl (Or.inl ⟨by rfl, ?_⟩) (by assumption) ?_
    rotate_left
    · intro w hSw; (try dsimp only at hSw); have h1 := hSw.c; have h2 := hSw.b; have hsn' : 0 < sn := (by have := HSN.out; omega); go_simp; first | done | (with_reducible rfl)
    simp only [Act.put, List.setIfInBounds_toArray, List.set_cons_zero, List.set_cons_succ]
    refine tkq 2 (some 51) (v := ?_) rfl (Or.inl ⟨by rfl, ?_⟩) (by assumption) ?_
    rotate_left
    · intro w hSw; (try dsimp only at hSw); have h1 := hSw.c; have h2 := hSw.b; have hsn' : 0 < sn := (by have := HSN.out; omega); go_simp; first | done | (with_reducible rfl)
    simp only [Act.put, List.setIfInBounds_toArray, List.set_cons_zero, List.set_cons_succ]
    refine tkq 3 (some 52) (v := ?_) rfl (Or.inl ⟨by rfl, ?_⟩) (by assumption) ?_
    rotate_left
    · intro w hSw; (try dsimp only at hSw); have h1 := hSw.c; have h2 := hSw.b; have hsn' : 0 < sn := (by have := HSN.out; omega); go_simp; first | done | (with_reducible rfl)
    simp only [Act.put, List.setIfInBounds_toArray, List.set_cons_zero, List.set_cons_succ]
    refine tkq 4 (some 53) (v := ?_) rfl (Or.inl ⟨by rfl, ?_⟩) (by assumption) ?_
    rotate_left
    · intro w hSw; (try dsimp only at hSw); go_simp; first | done | (with_reducible rfl)
    simp only [Act.put, List.setIfInBounds_toArray, List.set_cons_zero, List.set_cons_succ]
    refine tkq 5 (some 54) (v := ?_) rfl ?_ (by assumption) ?_
    rotate_left
    · refine yl_any 30 (.tmp 53) ?_ w3.heap.size 0 ?_ G _ ?_ Try.underlying30 rfl ?_ ?_
      · rfl
      · rfl
      · intro w hSw; exact hSw.h
      · rw [HGL.out]; exact hd_info
      · rfl
    simp only [Act.put, List.setIfInBounds_toArray, List.set_cons_zero, List.set_cons_succ]
    refine wpAnyH_ready (rs := [6]) (by kernel_rfl) (by simp) ?_
    refine AllReadyH.cons rfl (fun K hK => ?_) AllReadyH.nil
    go_simp
    go_wp2_with (go_at_call 41; refine (HKQ.out _).mono ?_; rintro e W7 ⟨rfl, hb7⟩)
    have hS7 := hS6.below hP6 hb7
    have hP7 := hP6.below hb7 hP6.lt
    have hH7 := hH6.below hb7 hH6.lt
    have hq3 := HQ2.out
    refine hK.out _ _ (hS7) (fun hHeld => ?_)
    clear hK K
    refine tkq 7 (some 56) (v := ?_) rfl (Or.inl ⟨by rfl, ?_⟩) (by assumption) ?_
    rotate_left
    · intro w hSw; (try dsimp only at hSw); go_simp; first | done | (with_reducible rfl)
    simp only [Act.put, List.setIfInBounds_toArray, List.set_cons_zero, List.set_cons_succ]
    refine tkq 8 (some 57) (v := ?_) rfl (Or.inl ⟨by rfl, ?_⟩) (by assumption) ?_
    rotate_left
    · intro w hSw; (try dsimp only at hSw); go_simp; first | done | (with_reducible rfl)
    simp only [Act.put, List.setIfInBounds_toArray, List.set_cons_zero, List.set_cons_succ]
    refine wpAnyH_done (by kernel_rfl) ?_ _
    have hbf7 : ∀ w', Kept (· = w1.heap.size) W7 w' → Kept (· = w1.heap.size) w5 w' := fun w' k => HBFY.out w' ((Kept.of_below hb7 _).trans k)
    have HB7 := Lib.hid hbf7
    have hhd7 := hS7.h
    clear hbf7 hq3 hHeld hS6 hP6 hH6 hS7
    by_cases hz : q = 0
    · subst hz
      have hun := HUN2.out
      rw [if_pos rfl] at hun
      have HUN3 := Lib.hid hun
      clear hun
      go_wp2_with (first | ((with_reducible refine at_ldh ?_); refine wpList_load_mid rfl 30 (.tmp 59) rfl w3.heap.size 0 (by rfl) G _ hhd7 Try.underlying30 rfl (by rw [HGL.out]; exact hd_info) ?_) | ((with_reducible refine at_sth ?_); refine st_hd w1.heap.size (hdL .zero .nil) G (by rfl) (by rfl) hH7 rfl HGL.out hGo ?_; intro w8 hH8 hk8) | fail)
      refine bodyPost_ret (results_cell_tmp3 8 9 10 11 30 (by rfl) _ 30 _ _ _ _ _ (by rfl) (by rfl) (by rfl) (by rfl) hH8 Try.underlying30 rfl (by rw [HGL.out]; exact hd_info)) rfl ?_
      have hk9 := HB7.out _ hk8
      unfold UnpPost
      rw [HUN3.out]
      exact ⟨d, v, by show _ = Ending.returned (.tuple #[hdV r.m d, .int .u64 N, v, .int .i64 0]); rw [HVM.out]; rfl, HBF.out.2.1 _ hk9, hwf, HBF.out.2.2 _ hk9, HBF.out.1 _ hk9⟩
    · have hzd : decide (q = 0) = false := decide_eq_false hz
      have hun := HUN2.out
      rw [if_neg hz] at hun
      have HUN3 := Lib.hid hun
      clear hun
      go_wp2_with (first | ((with_reducible refine at_sth ?_); refine st_hd w1.heap.size (hdL .zero .nil) (hdL .zero .nil) (by rfl) (by rfl) hH7 rfl rfl (by rfl) ?_; intro w8 hH8 hk8) | fail)
      refine bodyPost_ret (results_cell_tmp3 8 9 10 11 30 (by rfl) _ 30 _ _ _ _ _ (by rfl) (by rfl) (by rfl) (by rfl) hH8 Try.underlying30 rfl hd_info) rfl ?_
      exact UnpPost.no HUN3.out (HBF.out.1 _ (HB7.out _ hk8))
theorem unprotect_any (sk mk l : Int) (has : Bool) (A : Option Addr) (n c : Nat) (bs : List Int) (w : World) (hr : Rd w w.heap.size A n bs) (hn : n ≤ 1000000) (hnc : n ≤ c) (hcm : c ≤ maxLen) (hA : A = none → c = 0) (s0 : 0 ≤ sk) (s1 : sk < 18446744073709551616) (k0 : 0 ≤ mk) (k1 : mk < 18446744073709551616) (l0 : 0 ≤ l) (l1 : l < 18446744073709551616) :
    Calls Try.prog 16 #[.agg (kL sk mk).toArray, .slice A n c, .int .u64 l, .bool has] w (UnpPost sk mk l has bs w) := by
  cases h : revS mk bs with
  | none => exact unprotect_none sk mk l has A n c bs w hr hn hnc hcm hA s0 s1 k0 k1 l0 l1 h
  | some r => exact unprotect_some sk mk l has A n c bs w hr hn hnc hcm hA s0 s1 k0 k1 l0 l1 r h
end Go.Proofs.Ytehdilgnlhhjdaa
