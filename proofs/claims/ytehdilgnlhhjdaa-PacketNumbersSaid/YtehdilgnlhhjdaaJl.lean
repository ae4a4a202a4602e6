/-
  The document's own Unprotect, Of (narthexref9).
-/
import Derived.Test.YtehdilgnlhhjdaaJk
import Derived.Test.YtehdilgnlhhjdaaJf
namespace Go.Proofs.Ytehdilgnlhhjdaa
set_option linter.unusedVariables false
set_option linter.unusedSimpArgs false
open Go.RowKit Go.ChangeShapes Go.WideShapes Go.Deep
set_option maxRecDepth 100000 in
set_option maxHeartbeats 4000000 in
theorem runprotect_none (sk mk l : Int) (has : Bool) (A : Option Addr) (n c : Nat) (bs : List Int) (w : World) (hr : Rd w w.heap.size A n bs) (hn : n ≤ 1000000) (hnc : n ≤ c) (hcm : c ≤ maxLen) (hA : A = none → c = 0) (s0 : 0 ≤ sk) (s1 : sk < 18446744073709551616) (k0 : 0 ≤ mk) (k1 : mk < 18446744073709551616) (l0 : 0 ≤ l) (l1 : l < 18446744073709551616) (h : revS mk bs = none) :
    Calls Try.prog 25 #[.agg (kL sk mk).toArray, .slice A n c, .int .u64 l, .bool has] w (UnpPost sk mk l has bs w) := by
  have hK0 : At (w.alloc (.cells (kL sk mk).toArray 24)) w.heap.size 24 (kL sk mk) := At.new w 24 _
  have hb0 : Below w.heap.size w (w.alloc (.cells (kL sk mk).toArray 24)) := (Below.refl _ _).alloc (Nat.le_refl _) _
  have HU := Lib.hid (fun W (h : Rd W W.heap.size A n bs) => rreveal_any sk mk A n c bs W h hn hnc hcm hA k0 k1)
  have hK00 : (kL sk mk)[0]? = some (.int .u64 sk) := rfl
  obtain ⟨K, hK⟩ : ∃ K, kL sk mk = K := ⟨_, rfl⟩
  have hKl : K.length = 2 := by rw [← hK]; rfl
  rw [hK] at hK0 hb0 HU hK00 ⊢
  obtain ⟨w1, hw1⟩ : ∃ x, w.alloc (.cells K.toArray 24) = x := ⟨_, rfl⟩
  rw [hw1] at hK0 hb0
  have hH0 : At (w1.alloc (.cells #[.int .i64 0, .int .u8 0, .int .u8 0, .int .u8 0, .int .u8 0, .int .u8 0, .int .u8 0, .int .u8 0, .int .u8 0, .int .u8 0, .int .u8 0, .int .u8 0, .int .u8 0, .int .u8 0, .int .u8 0, .int .u8 0, .int .u8 0, .slice none 0 0, .int .i64 0, .bool false] 30)) w1.heap.size 30 (hdL .zero .nil) := At.new w1 30 (hdL .zero .nil)
  have hK1 := hK0.alloc (.cells #[.int .i64 0, .int .u8 0, .int .u8 0, .int .u8 0, .int .u8 0, .int .u8 0, .int .u8 0, .int .u8 0, .int .u8 0, .int .u8 0, .int .u8 0, .int .u8 0, .int .u8 0, .int .u8 0, .int .u8 0, .int .u8 0, .int .u8 0, .slice none 0 0, .int .i64 0, .bool false] 30)
  have hb1 := hb0.alloc hb0.size (.cells #[.int .i64 0, .int .u8 0, .int .u8 0, .int .u8 0, .int .u8 0, .int .u8 0, .int .u8 0, .int .u8 0, .int .u8 0, .int .u8 0, .int .u8 0, .int .u8 0, .int .u8 0, .int .u8 0, .int .u8 0, .int .u8 0, .int .u8 0, .slice none 0 0, .int .i64 0, .bool false] 30)
  have hlt0 := hK0.lt
  obtain ⟨w2, hw2⟩ : ∃ x, w1.alloc (.cells #[.int .i64 0, .int .u8 0, .int .u8 0, .int .u8 0, .int .u8 0, .int .u8 0, .int .u8 0, .int .u8 0, .int .u8 0, .int .u8 0, .int .u8 0, .int .u8 0, .int .u8 0, .int .u8 0, .int .u8 0, .int .u8 0, .int .u8 0, .slice none 0 0, .int .i64 0, .bool false] 30) = x := ⟨_, rfl⟩
  rw [hw2] at hH0 hK1 hb1
  have hr2 := (hr.below hb1).more hb1.size
  have hlt2 := hH0.lt
  have HKL := Lib.hid hKl
  have HK00 := Lib.hid hK00
  clear hKl hr hK hK00
  have hun : unpS sk mk l has bs = (.zero, [], 0, [], 12) := by unfold unpS; rw [h]
  go_enter Try.func25, Try.ntmps25
  go_wp2_with (first | ((with_reducible refine at_ldrk ?_); refine ld_rkt w.heap.size K (by rfl) hK1 HKL.out ?_) | fail)
  refine (HU.out w2 hr2).mono ?_
  intro e w3 hup
  unfold RRvPost at hup
  rw [h] at hup
  obtain ⟨rfl, hb3⟩ := hup
  have hP3 : At (w3.alloc (.cells #[.int .i64 0, .int .u8 0, .int .u8 0, .int .u8 0, .int .u8 0, .int .u8 0, .int .u8 0, .int .u8 0, .int .u8 0, .int .u8 0, .int .u8 0, .int .u8 0, .int .u8 0, .int .u8 0, .int .u8 0, .int .u8 0, .int .u8 0, .slice none 0 0, .int .i64 0, .bool false] 30)) w3.heap.size 30 (hdL .zero .nil) := At.new w3 30 (hdL .zero .nil)
  have hH3 := (hH0.below hb3 hH0.lt).alloc (.cells #[.int .i64 0, .int .u8 0, .int .u8 0, .int .u8 0, .int .u8 0, .int .u8 0, .int .u8 0, .int .u8 0, .int .u8 0, .int .u8 0, .int .u8 0, .int .u8 0, .int .u8 0, .int .u8 0, .int .u8 0, .int .u8 0, .int .u8 0, .slice none 0 0, .int .i64 0, .bool false] 30)
  have hb4 := (hb1.trans (hb3.mono hb1.size)).alloc (by have := hb1.size; have := hb3.size; omega) (.cells #[.int .i64 0, .int .u8 0, .int .u8 0, .int .u8 0, .int .u8 0, .int .u8 0, .int .u8 0, .int .u8 0, .int .u8 0, .int .u8 0, .int .u8 0, .int .u8 0, .int .u8 0, .int .u8 0, .int .u8 0, .int .u8 0, .int .u8 0, .slice none 0 0, .int .i64 0, .bool false] 30)
  have hle3 := hb3.size
  have hle1 := hb1.size
  have hvv : hdV HN.zero Sl.nil = .agg (hdL HN.zero Sl.nil).toArray := rfl
  rw [hvv]
  obtain ⟨L0, hL0⟩ : ∃ L, hdL HN.zero Sl.nil = L := ⟨_, rfl⟩
  have hL0l : L0.length = 20 := by rw [← hL0]; rfl
  have hL0o : L0.all (·.oneCell') = true := by rw [← hL0]; kernel_rfl
  rw [hL0] at hP3 ⊢
  clear hL0
  go_wp2_with (first | ((with_reducible refine at_sth (x := .tmp 12) ?_); refine st_hd w3.heap.size L0 L0 (by rfl) (by rfl) hP3 hL0l hL0l hL0o ?_; intro w4 hP4 hk4) | ((with_reducible refine at_sth (x := .tmp 8) ?_); refine st_hd w1.heap.size (hdL .zero .nil) (hdL .zero .nil) (by rfl) (by rfl) (hH3.kept hk4 (by omega)) rfl rfl (by rfl) ?_; intro w5 hH5 hk5) | fail)
  have hb5 := hk4.below hb4 hb4.size (by intro j hj; subst hj; omega)
  have hb6 := hk5.below hb5 hb5.size (by intro j hj; subst hj; omega)
  refine bodyPost_ret (results_cell_tmp3 8 9 10 11 30 (by rfl) _ 30 _ _ _ _ _ (by rfl) (by rfl) (by rfl) (by rfl) hH5 Try.underlying30 rfl hd_info) rfl ?_
  exact UnpPost.no hun hb6
set_option maxRecDepth 100000 in
set_option maxHeartbeats 8000000 in
theorem runprotect_some (sk mk l : Int) (has : Bool) (A : Option Addr) (n c : Nat) (bs : List Int) (w : World) (hr : Rd w w.heap.size A n bs) (hn : n ≤ 1000000) (hnc : n ≤ c) (hcm : c ≤ maxLen) (hA : A = none → c = 0) (s0 : 0 ≤ sk) (s1 : sk < 18446744073709551616) (k0 : 0 ≤ mk) (k1 : mk < 18446744073709551616) (l0 : 0 ≤ l) (l1 : l < 18446744073709551616) (r : Rev) (h : revS mk bs = some r) :
    Calls Try.prog 25 #[.agg (kL sk mk).toArray, .slice A n c, .int .u64 l, .bool has] w (UnpPost sk mk l has bs w) := by
  obtain ⟨r1, r2, r3, r4, r5, r6, r7, r8, r9, r10, _, _⟩ := rev_bd mk bs r h hr.2.1
  have hrl := hr.1
  have hK0 : At (w.alloc (.cells (kL sk mk).toArray 24)) w.heap.size 24 (kL sk mk) := At.new w 24 _
  have hb0 : Below w.heap.size w (w.alloc (.cells (kL sk mk).toArray 24)) := (Below.refl _ _).alloc (Nat.le_refl _) _
  have HU := Lib.hid (fun W (h : Rd W W.heap.size A n bs) => rreveal_any sk mk A n c bs W h hn hnc hcm hA k0 k1)
  have hK00 : (kL sk mk)[0]? = some (.int .u64 sk) := rfl
  obtain ⟨K, hK⟩ : ∃ K, kL sk mk = K := ⟨_, rfl⟩
  have hKl : K.length = 2 := by rw [← hK]; rfl
  rw [hK] at hK0 hb0 HU hK00 ⊢
  obtain ⟨w1, hw1⟩ : ∃ x, w.alloc (.cells K.toArray 24) = x := ⟨_, rfl⟩
  rw [hw1] at hK0 hb0
  have hH0 : At (w1.alloc (.cells #[.int .i64 0, .int .u8 0, .int .u8 0, .int .u8 0, .int .u8 0, .int .u8 0, .int .u8 0, .int .u8 0, .int .u8 0, .int .u8 0, .int .u8 0, .int .u8 0, .int .u8 0, .int .u8 0, .int .u8 0, .int .u8 0, .int .u8 0, .slice none 0 0, .int .i64 0, .bool false] 30)) w1.heap.size 30 (hdL .zero .nil) := At.new w1 30 (hdL .zero .nil)
  have hK1 := hK0.alloc (.cells #[.int .i64 0, .int .u8 0, .int .u8 0, .int .u8 0, .int .u8 0, .int .u8 0, .int .u8 0, .int .u8 0, .int .u8 0, .int .u8 0, .int .u8 0, .int .u8 0, .int .u8 0, .int .u8 0, .int .u8 0, .int .u8 0, .int .u8 0, .slice none 0 0, .int .i64 0, .bool false] 30)
  have hb1 := hb0.alloc hb0.size (.cells #[.int .i64 0, .int .u8 0, .int .u8 0, .int .u8 0, .int .u8 0, .int .u8 0, .int .u8 0, .int .u8 0, .int .u8 0, .int .u8 0, .int .u8 0, .int .u8 0, .int .u8 0, .int .u8 0, .int .u8 0, .int .u8 0, .int .u8 0, .slice none 0 0, .int .i64 0, .bool false] 30)
  have hlt0 := hK0.lt
  obtain ⟨w2, hw2⟩ : ∃ x, w1.alloc (.cells #[.int .i64 0, .int .u8 0, .int .u8 0, .int .u8 0, .int .u8 0, .int .u8 0, .int .u8 0, .int .u8 0, .int .u8 0, .int .u8 0, .int .u8 0, .int .u8 0, .int .u8 0, .int .u8 0, .int .u8 0, .int .u8 0, .int .u8 0, .slice none 0 0, .int .i64 0, .bool false] 30) = x := ⟨_, rfl⟩
  rw [hw2] at hH0 hK1 hb1
  have hr2 := (hr.below hb1).more hb1.size
  have hlt2 := hH0.lt
  have HKL := Lib.hid hKl
  have HK00 := Lib.hid hK00
  clear hKl hr hK hK00
  have HO := Lib.hid (fun W e W' (hup : RRvPost mk bs W e W') => (show ∃ d v, e = .returned (.tuple #[hdV r.m d, .int .u32 r.low, v, .int .i64 r.at_, .bool true]) ∧ InD W' (fun b => W.heap.size ≤ b) d r.tok ∧ r.m.wf ∧ Own W' W.heap.size 5 v r.x ∧ Below W.heap.size W W' by unfold RRvPost at hup; rw [h] at hup; obtain ⟨⟨d, v, h1, h2, h3, h4⟩, h5⟩ := hup; exact ⟨d, v, h1, h2, h3, h4, h5⟩))
  have hWb := wholeS_bd l has r.low r.m.w l0 r3 r4
  have HWH := Lib.hid (fun W => rwhole_any l has r.low r.m.w W l0 l1 r3 r4 (by omega) (by omega))
  have hun0 : unpS sk mk l has bs = (if openB sk (wholeS l has r.low r.m.w) (r.x.take r.at_) (r.x.drop r.at_) = false then (.zero, [], 0, [], 25)
    else if andB (r.x.getD 0 0) (if r.m.s = 2 then 24 else 12) = 0 then (r.m, r.tok, wholeS l has r.low r.m.w, openS sk (wholeS l has r.low r.m.w) (r.x.take r.at_) (r.x.drop r.at_), 0)
    else (.zero, [], 0, [], 14)) := by unfold unpS; rw [h]
  have hx0 : r.x[0]? = some (r.x.getD 0 0) := by rw [List.getD_eq_getElem?_getD, List.getElem?_eq_getElem (by omega)]; rfl
  obtain ⟨N, hN⟩ : ∃ N, wholeS l has r.low r.m.w = N := ⟨_, rfl⟩
  rw [hN] at hWb HWH hun0
  obtain ⟨at_, hat⟩ : ∃ x, r.at_ = x := ⟨_, rfl⟩
  obtain ⟨X, hX⟩ : ∃ x, r.x = x := ⟨_, rfl⟩
  rw [hat, hX] at HO hun0
  rw [hat] at r5
  rw [hat, hX] at r6
  rw [hX] at r7 r8 hx0
  obtain ⟨b, hb⟩ : ∃ b, X.length = b := ⟨_, rfl⟩
  rw [hb] at r6 r7
  have HB := Lib.hid hb
  obtain ⟨y, hy⟩ : ∃ y, X.getD 0 0 = y := ⟨_, rfl⟩
  rw [hy] at hx0 hun0
  have hyb : 0 ≤ y ∧ y < 256 := by rw [← hy]; exact r8.getD 0
  have HX0 := Lib.hid hx0
  have HUN := Lib.hid hun0
  clear hb hy hat hX hx0 hun0 hN
  go_enter Try.func25, Try.ntmps25
  go_wp2_with (first | ((with_reducible refine at_ldrk ?_); refine ld_rkt w.heap.size K (by rfl) hK1 HKL.out ?_) | fail)
  refine (HU.out w2 hr2).mono ?_
  intro e w3 hup
  have hup2 := HO.out _ _ _ hup
  obtain ⟨d, v3, rfl, hd, hwf, ho3, hb3⟩ := hup2
  obtain ⟨g3, c3, _, rfl, _, _, _, hgb3, x1, x2⟩ := ho3.place (by rw [HB.out]; omega)
  rw [HB.out] at ho3 x1 ⊢
  have hP3 : At (w3.alloc (.cells #[.int .i64 0, .int .u8 0, .int .u8 0, .int .u8 0, .int .u8 0, .int .u8 0, .int .u8 0, .int .u8 0, .int .u8 0, .int .u8 0, .int .u8 0, .int .u8 0, .int .u8 0, .int .u8 0, .int .u8 0, .int .u8 0, .int .u8 0, .slice none 0 0, .int .i64 0, .bool false] 30)) w3.heap.size 30 (hdL .zero .nil) := At.new w3 30 (hdL .zero .nil)
  have hH3 := (hH0.below hb3 hH0.lt).alloc (.cells #[.int .i64 0, .int .u8 0, .int .u8 0, .int .u8 0, .int .u8 0, .int .u8 0, .int .u8 0, .int .u8 0, .int .u8 0, .int .u8 0, .int .u8 0, .int .u8 0, .int .u8 0, .int .u8 0, .int .u8 0, .int .u8 0, .int .u8 0, .slice none 0 0, .int .i64 0, .bool false] 30)
  have hK3 := (hK1.below hb3 hK1.lt).alloc (.cells #[.int .i64 0, .int .u8 0, .int .u8 0, .int .u8 0, .int .u8 0, .int .u8 0, .int .u8 0, .int .u8 0, .int .u8 0, .int .u8 0, .int .u8 0, .int .u8 0, .int .u8 0, .int .u8 0, .int .u8 0, .int .u8 0, .int .u8 0, .slice none 0 0, .int .i64 0, .bool false] 30)
  have hQ3 : Kept (fun j => w3.heap.size ≤ j) w3 (w3.alloc (.cells #[.int .i64 0, .int .u8 0, .int .u8 0, .int .u8 0, .int .u8 0, .int .u8 0, .int .u8 0, .int .u8 0, .int .u8 0, .int .u8 0, .int .u8 0, .int .u8 0, .int .u8 0, .int .u8 0, .int .u8 0, .int .u8 0, .int .u8 0, .slice none 0 0, .int .i64 0, .bool false] 30)) := (Kept.refl _ _).alloc _
  have hle3 := hb3.size
  have hle1 := hb1.size
  have hg3 := (ho3.block_lt g3 rfl)
  have hvv : hdV r.m d = .agg (hdL r.m d).toArray := rfl
  rw [hvv]
  have hGo : (hdL r.m d).all (·.oneCell') = true := rfl
  have hc18 : (hdL r.m d)[18]? = some (.int .i64 r.m.w) := rfl
  have hc0 : (hdL r.m d)[0]? = some (.int .i64 r.m.s) := rfl
  obtain ⟨G, hG⟩ : ∃ G, hdL r.m d = G := ⟨_, rfl⟩
  have hGl : G.length = 20 := by rw [← hG]; rfl
  rw [hG] at hvv hGo hc18 hc0 ⊢
  have HVM := Lib.hid hvv
  have HGL := Lib.hid hGl
  have HC18 := Lib.hid hc18
  have HC0 := Lib.hid hc0
  clear hGl hvv hG hc18 hc0 hup
  go_wp2_with (first | ((with_reducible refine at_sth ?_); refine st_hd w3.heap.size (hdL .zero .nil) G (by rfl) (by rfl) hP3 rfl HGL.out hGo ?_; intro w4 hP4 hk4; have hx18 := (show w4.cell? ⟨w3.heap.size, 18, none⟩ = some (.int .i64 r.m.w) by rw [hP4.cell 18]; exact HC18.out)) | fail)
  refine (HWH.out w4).mono ?_
  rintro e w4' ⟨rfl, dd, rfl⟩
  have hQ4 := hQ3.trans (hk4.mono (fun j hj => .inl (by omega)))
  have hH4 := (hH3.kept hk4 (by omega)).drewN dd
  have hK4 := (hK3.kept hk4 (by omega)).drewN dd
  have hP5 := hP4.drewN dd
  have ho5 := (ho3.kept hQ4 (fun j hj hh => by have h7 : (some g3 : Option Nat) = some j := hj; injection h7 with h7; have h6 : w3.heap.size ≤ j := hh; have h5 := hg3.2; omega))
  have ho5 : Own (w4.drewN dd) w2.heap.size 5 (.slice (some ⟨g3, 0, none⟩) b c3) X := ho5
  have hQ5 := hQ4.drewN dd
  have hsz : (w4.drewN dd).heap.size = w4.heap.size := rfl
  obtain ⟨w5, hw5⟩ : ∃ x, w4.drewN dd = x := ⟨_, rfl⟩
  rw [hw5] at hH4 hK4 hP5 ho5 hQ5 ⊢
  clear hsz hw5 hP4 hk4 hQ4 hQ3 hP3 hH3 hK3 ho3 hx18
  have hxb := (own_cell ho5 HB.out 0 y HX0.out).1
  have hac : at_ ≤ c3 := by omega
  have hacI : (at_ : Int) ≤ (c3 : Int) := by omega
  have hab : at_ ≤ b := by omega
  have habI : (at_ : Int) ≤ (b : Int) := by omega
  have hnc3 : ¬ c3 = at_ := by omega
  go_wp2_with fail
  obtain ⟨A6, c6, hv6, _, _, hrx⟩ := ho5.open_n b HB.out
  injection hv6 with hv6 _ hv6c
  subst hv6; subst hv6c
  have h1 := hrx.cutTo (m := at_) (by omega)
  have h2 := hrx.cutFrom (c := c3) (k := at_) (by omega) x1
  have ecut : cutA (some ⟨g3, 0, none⟩) c3 at_ = some ⟨g3, 0 + at_, none⟩ := by unfold cutA; rw [if_neg (by omega), Option.map_some, addr_add]
  rw [ecut, Nat.zero_add] at h2
  have H1 := Lib.hid h1.drew
  have H2 := Lib.hid h2.drew
  have HOP := Lib.hid (fun W (h1 : Rd W W.heap.size (some ⟨g3, 0, none⟩) at_ (X.take at_)) (h2 : Rd W W.heap.size (some ⟨g3, at_, none⟩) (b - at_) (X.drop at_)) => ropen_any sk N (some ⟨g3, 0, none⟩) at_ c3 (X.take at_) (some ⟨g3, at_, none⟩) (b - at_) (c3 - at_) (X.drop at_) W h1 h2 hac x2 (by omega) (by unfold maxLen at x2 ⊢; omega) (by omega) s0 s1 hWb.1 hWb.2)
  have hck := (show w5.drew.cell? ⟨w.heap.size, 0, none⟩ = some (.int .u64 sk) by show w5.cell? _ = _; rw [hK4.cell 0]; exact HK00.out)
  have hH6 := hH4.drew
  have hP6 := hP5.drew
  have hQ6 := hQ5.drew
  have ho6 := ho5.drew
  have hszd : w5.drew.heap.size = w5.heap.size := rfl
  obtain ⟨Y, hY⟩ : ∃ x, w5.drew = x := ⟨_, rfl⟩
  rw [hY] at hck hH6 hP6 hQ6 ho6 H1 H2 hszd
  rw [← hszd] at H1 H2
  clear hszd h1 h2 ecut hrx hH4 hP5 hQ5 ho5 hK4 hxb
  refine wp_region_held_drew (S := (fun W => W.cell? ⟨w.heap.size, 0, none⟩ = some (.int .u64 sk))) (by kernel_rfl) (by rw [hY]; exact hck) (fun hHeld => ?_)
  rw [hY] at hHeld ⊢
  clear hY
  refine tkq 0 (some 40) (v := ?_) rfl (Or.inl ⟨by rfl, ?_⟩) (by assumption) ?_
  rotate_left
  · intro w hSw; (try dsimp only at hSw); go_simp; first | done | (with_reducible rfl)
  simp only [Act.put, List.setIfInBounds_toArray, List.set_cons_zero, List.set_cons_succ]
  refine tkq 1 (some 41) (v := ?_) rfl (Or.inl ⟨by rfl, ?_⟩) (by assumption) ?_
  rotate_left
  · intro w hSw; (try dsimp only at hSw); have h1 := hSw; go_simp; first | done | (with_reducible rfl)
  simp only [Act.put, List.setIfInBounds_toArray, List.set_cons_zero, List.set_cons_succ]
  refine tkq 2 (some 42) (v := ?_) rfl (Or.inl ⟨by rfl, ?_⟩) (by assumption) ?_
  rotate_left
  · intro w hSw; (try dsimp only at hSw); go_simp; first | done | (with_reducible rfl)
  simp only [Act.put, List.setIfInBounds_toArray, List.set_cons_zero, List.set_cons_succ]
  refine tkq 3 (some 43) (v := ?_) rfl (Or.inl ⟨by rfl, ?_⟩) (by assumption) ?_
  rotate_left
  · intro w hSw; (try dsimp only at hSw); go_simp; first | done | (with_reducible rfl)
  simp only [Act.put, List.setIfInBounds_toArray, List.set_cons_zero, List.set_cons_succ]
  refine tkq 4 (some 44) (v := ?_) rfl (Or.inl ⟨by rfl, ?_⟩) (by assumption) ?_
  rotate_left
  · intro w hSw; (try dsimp only at hSw); go_simp; first | done | (with_reducible rfl)
  simp only [Act.put, List.setIfInBounds_toArray, List.set_cons_zero, List.set_cons_succ]
  refine tkq 5 (some 45) (v := ?_) rfl (Or.inl ⟨by rfl, ?_⟩) (by assumption) ?_
  rotate_left
  · intro w hSw; (try dsimp only at hSw); go_simp; first | done | (with_reducible rfl)
  simp only [Act.put, List.setIfInBounds_toArray, List.set_cons_zero, List.set_cons_succ]
  refine tkq 6 (some 46) (v := ?_) rfl (Or.inl ⟨by rfl, ?_⟩) (by assumption) ?_
  rotate_left
  · intro w hSw; (try dsimp only at hSw); go_simp; first | done | (with_reducible rfl)
  simp only [Act.put, List.setIfInBounds_toArray, List.set_cons_zero, List.set_cons_succ]
  refine tkq 7 (some 47) (v := ?_) rfl (Or.inl ⟨by rfl, ?_⟩) (by assumption) ?_
  rotate_left
  · intro w hSw; (try dsimp only at hSw); go_simp; first | done | (with_reducible rfl)
  simp only [Act.put, List.setIfInBounds_toArray, List.set_cons_zero, List.set_cons_succ]
  refine tkq 8 (some 48) (v := ?_) rfl (Or.inl ⟨by rfl, ?_⟩) (by assumption) ?_
  rotate_left
  · intro w hSw; (try dsimp only at hSw); go_simp; first | done | (with_reducible rfl)
  simp only [Act.put, List.setIfInBounds_toArray, List.set_cons_zero, List.set_cons_succ]
  refine wpAnyH_ready (rs := [9]) (by kernel_rfl) (by simp) ?_
  refine AllReadyH.cons rfl (fun K hK => ?_) AllReadyH.nil
  go_simp
  go_wp2_with (go_at_call 50; refine (HOP.out _ H1.out H2.out).mono ?_; rintro e W7 ⟨v7, rfl, ho8, hb7⟩)
  have hck7 := cell_below hck hb7
  refine hK.out _ _ (hck7) (fun hHeld => ?_)
  clear hK K
  refine tkq 10 (some 39) (v := ?_) rfl (Or.inl ⟨by rfl, ?_⟩) (by assumption) ?_
  rotate_left
  · intro w hSw; (try dsimp only at hSw); go_simp; first | done | (with_reducible rfl)
  simp only [Act.put, List.setIfInBounds_toArray, List.set_cons_zero, List.set_cons_succ]
  refine tkq 11 (some 50) (v := ?_) rfl (Or.inl ⟨by rfl, ?_⟩) (by assumption) ?_
  rotate_left
  · intro w hSw; (try dsimp only at hSw); go_simp; first | done | (with_reducible rfl)
  simp only [Act.put, List.setIfInBounds_toArray, List.set_cons_zero, List.set_cons_succ]
  refine tkq 12 (some 51) (v := ?_) rfl (Or.inl ⟨by rfl, ?_⟩) (by assumption) ?_
  rotate_left
  · intro w hSw; (try dsimp only at hSw); go_simp; first | done | (with_reducible rfl)
  simp only [Act.put, List.setIfInBounds_toArray, List.set_cons_zero, List.set_cons_succ]
  refine tkq 13 (some 18) (v := ?_) rfl (Or.inl ⟨by rfl, ?_⟩) (by assumption) ?_
  rotate_left
  · intro w hSw; (try dsimp only at hSw); go_simp; first | done | (with_reducible rfl)
  simp only [Act.put, List.setIfInBounds_toArray, List.set_cons_zero, List.set_cons_succ]
  refine tkq 14 (some 19) (v := ?_) rfl (Or.inl ⟨by rfl, ?_⟩) (by assumption) ?_
  rotate_left
  · intro w hSw; (try dsimp only at hSw); go_simp; first | done | (with_reducible rfl)
  simp only [Act.put, List.setIfInBounds_toArray, List.set_cons_zero, List.set_cons_succ]
  refine wpAnyH_done (by kernel_rfl) ?_ _
  have hP7 := hP6.below hb7 hP6.lt
  have hH7 := hH6.below hb7 hH6.lt
  have hQ7 := hQ6.trans (Kept.of_below hb7 _)
  have hsz6 := hQ6.size
  have hsz7 := hQ7.size
  have ho7 := ho6.below hb7 (Nat.le_refl _)
  have hx7 := (own_cell ho7 HB.out 0 y HX0.out).1
  have hbw := hb1.trans (hb3.mono hb1.size)
  have hbf : ∀ w', Kept (· = w1.heap.size) W7 w' → Below w.heap.size w w' := fun w' k => k.below (hQ7.below hbw (by omega) (by intro j hj; omega)) (by omega) (by intro j hj; omega)
  have hdf : ∀ w', Kept (· = w1.heap.size) W7 w' → InD w' (fun b => w.heap.size ≤ b) d r.tok := fun w' k => by
    have hd3 := hd.mono (P' := fun b => w2.heap.size ≤ b ∧ b < w3.heap.size) (fun b h1 h2 => ⟨h2, h1⟩)
    have hd5 := hd3.kept hQ7 (fun b hb hh => by have h9 : w2.heap.size ≤ b ∧ b < w3.heap.size := hb; have h7 : w3.heap.size ≤ b := hh; omega)
    have hd6 := hd5.kept k (fun b hb hh => by have h9 : w2.heap.size ≤ b ∧ b < w3.heap.size := hb; have h7 : b = w1.heap.size := hh; omega)
    exact hd6.mono (fun b _ hb => by have h9 : w2.heap.size ≤ b ∧ b < w3.heap.size := hb; show w.heap.size ≤ b; omega)
  have hvf : ∀ w', Kept (· = w1.heap.size) W7 w' → Own w' w.heap.size 5 v7 (openS sk N (X.take at_) (X.drop at_)) := fun w' k => (ho8.kept k (fun j hj hh => by have h1 := ho8.block_lt j hj; have h7 : j = w1.heap.size := hh; omega)).base_ (by omega)
  have HBF := Lib.hid (And.intro hbf (And.intro hdf hvf))
  have hcs7 := (show W7.cell? ⟨w3.heap.size, 0, none⟩ = some (.int .i64 r.m.s) by rw [hP7.cell 0]; exact HC0.out)
  clear hbf hdf hvf hd hQ6 hP6 hH6 ho6 hck H1 H2 ho7
  cases hB : openB sk N (X.take at_) (X.drop at_) with
  | false =>
    have hun : unpS sk mk l has bs = (.zero, [], 0, [], 25) := by rw [HUN.out, if_pos hB]
    clear hB
    go_wp2_with (first | ((with_reducible refine at_sth ?_); refine st_hd w1.heap.size (hdL .zero .nil) (hdL .zero .nil) (by rfl) (by rfl) hH7 rfl rfl (by rfl) ?_; intro w8 hH8 hk8) | fail)
    refine bodyPost_ret (results_cell_tmp3 8 9 10 11 30 (by rfl) _ 30 _ _ _ _ _ (by rfl) (by rfl) (by rfl) (by rfl) hH8 Try.underlying30 rfl hd_info) rfl ?_
    exact UnpPost.no hun (HBF.out.1 _ hk8)
  | true =>
    have hun : unpS sk mk l has bs = (if andB y (if r.m.s = 2 then 24 else 12) = 0 then (r.m, r.tok, N, openS sk N (X.take at_) (X.drop at_), 0) else (.zero, [], 0, [], 14)) := by rw [HUN.out, if_neg (by rw [hB]; decide)]
    clear hB
    have hb3c : 0 < c3 := by omega
    have hbb : 0 < b := by omega
    by_cases h2 : r.m.s = 2
    · rw [if_pos h2] at hun
      have hg : decide (r.m.s = 2) = true := decide_eq_true h2
      obtain ⟨q, hq⟩ : ∃ q, andB y 24 = q := ⟨_, rfl⟩
      rw [hq] at hun
      have HUN2 := Lib.hid hun
      have hq2 : bits BinOp.and IntKind.u8 y 24 = q := hq
      clear hun hq
      by_cases hz : q = 0
      · subst hz
        have hun := HUN2.out
        rw [if_pos rfl] at hun
        have HUN3 := Lib.hid hun
        clear hun
        go_wp2_with (first | ((with_reducible refine at_ldh ?_); refine ld_hd w3.heap.size G (by rfl) hP7 HGL.out ?_) | ((with_reducible refine at_sth ?_); refine st_hd w1.heap.size (hdL .zero .nil) G (by rfl) (by rfl) hH7 rfl HGL.out hGo ?_; intro w8 hH8 hk8) | fail)
        refine bodyPost_ret (results_cell_tmp3 8 9 10 11 30 (by rfl) _ 30 _ _ _ _ _ (by rfl) (by rfl) (by rfl) (by rfl) hH8 Try.underlying30 rfl (by rw [HGL.out]; exact hd_info)) rfl ?_
        unfold UnpPost
        rw [HUN3.out]
        exact ⟨d, v7, by show _ = Ending.returned (.tuple #[hdV r.m d, .int .u64 N, v7, .int .i64 0]); rw [HVM.out]; rfl, HBF.out.2.1 _ hk8, hwf, HBF.out.2.2 _ hk8, HBF.out.1 _ hk8⟩
      · have hzd : decide (q = 0) = false := decide_eq_false hz
        have hun := HUN2.out
        rw [if_neg hz] at hun
        have HUN3 := Lib.hid hun
        clear hun
        go_wp2_with (first | ((with_reducible refine at_sth ?_); refine st_hd w1.heap.size (hdL .zero .nil) (hdL .zero .nil) (by rfl) (by rfl) hH7 rfl rfl (by rfl) ?_; intro w8 hH8 hk8) | fail)
        refine bodyPost_ret (results_cell_tmp3 8 9 10 11 30 (by rfl) _ 30 _ _ _ _ _ (by rfl) (by rfl) (by rfl) (by rfl) hH8 Try.underlying30 rfl hd_info) rfl ?_
        exact UnpPost.no HUN3.out (HBF.out.1 _ hk8)
    · rw [if_neg h2] at hun
      have hg : decide (r.m.s = 2) = false := decide_eq_false h2
      obtain ⟨q, hq⟩ : ∃ q, andB y 12 = q := ⟨_, rfl⟩
      rw [hq] at hun
      have HUN2 := Lib.hid hun
      have hq2 : bits BinOp.and IntKind.u8 y 12 = q := hq
      clear hun hq
      by_cases hz : q = 0
      · subst hz
        have hun := HUN2.out
        rw [if_pos rfl] at hun
        have HUN3 := Lib.hid hun
        clear hun
        go_wp2_with (first | ((with_reducible refine at_ldh ?_); refine ld_hd w3.heap.size G (by rfl) hP7 HGL.out ?_) | ((with_reducible refine at_sth ?_); refine st_hd w1.heap.size (hdL .zero .nil) G (by rfl) (by rfl) hH7 rfl HGL.out hGo ?_; intro w8 hH8 hk8) | fail)
        refine bodyPost_ret (results_cell_tmp3 8 9 10 11 30 (by rfl) _ 30 _ _ _ _ _ (by rfl) (by rfl) (by rfl) (by rfl) hH8 Try.underlying30 rfl (by rw [HGL.out]; exact hd_info)) rfl ?_
        unfold UnpPost
        rw [HUN3.out]
        exact ⟨d, v7, by show _ = Ending.returned (.tuple #[hdV r.m d, .int .u64 N, v7, .int .i64 0]); rw [HVM.out]; rfl, HBF.out.2.1 _ hk8, hwf, HBF.out.2.2 _ hk8, HBF.out.1 _ hk8⟩
      · have hzd : decide (q = 0) = false := decide_eq_false hz
        have hun := HUN2.out
        rw [if_neg hz] at hun
        have HUN3 := Lib.hid hun
        clear hun
        go_wp2_with (first | ((with_reducible refine at_sth ?_); refine st_hd w1.heap.size (hdL .zero .nil) (hdL .zero .nil) (by rfl) (by rfl) hH7 rfl rfl (by rfl) ?_; intro w8 hH8 hk8) | fail)
        refine bodyPost_ret (results_cell_tmp3 8 9 10 11 30 (by rfl) _ 30 _ _ _ _ _ (by rfl) (by rfl) (by rfl) (by rfl) hH8 Try.underlying30 rfl hd_info) rfl ?_
        exact UnpPost.no HUN3.out (HBF.out.1 _ hk8)
theorem runprotect_any (sk mk l : Int) (has : Bool) (A : Option Addr) (n c : Nat) (bs : List Int) (w : World) (hr : Rd w w.heap.size A n bs) (hn : n ≤ 1000000) (hnc : n ≤ c) (hcm : c ≤ maxLen) (hA : A = none → c = 0) (s0 : 0 ≤ sk) (s1 : sk < 18446744073709551616) (k0 : 0 ≤ mk) (k1 : mk < 18446744073709551616) (l0 : 0 ≤ l) (l1 : l < 18446744073709551616) :
    Calls Try.prog 25 #[.agg (kL sk mk).toArray, .slice A n c, .int .u64 l, .bool has] w (UnpPost sk mk l has bs w) := by
  cases h : revS mk bs with
  | none => exact runprotect_none sk mk l has A n c bs w hr hn hnc hcm hA s0 s1 k0 k1 l0 l1 h
  | some r => exact runprotect_some sk mk l has A n c bs w hr hn hnc hcm hA s0 s1 k0 k1 l0 l1 r h
end Go.Proofs.Ytehdilgnlhhjdaa
