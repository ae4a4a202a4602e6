/-
  Frames as they are drawn, that came in as a row: what their cells are.
-/
import Derived.Test.YtiklelecoekkjaaOpenRow
import Derived.Test.YtiklelecoekkjaaKframes
import Derived.Test.YtiklelecoekkjaaLists
import Derived.Test.YtiklelecoekkjaaTrip4
import Derived.Test.YtiklelecoekkjaaDec
import Derived.Test.YtiklelecoekkjaaBs
import Derived.Test.YtiklelecoekkjaaEnc
import Derived.Test.YtiklelecoekkjaaFasks
import Derived.Test.YtiklelecoekkjaaAll
namespace Go.Proofs.Ytiklelecoekkjaa
open Go.RowKit Go.ChangeShapes Go.WideShapes Go.Deep
set_option linter.unusedVariables false
set_option linter.unusedSimpArgs false
open Go.RowKit
section
variable {H : Type} {enc : TypeId × Value → H} {w : World}
theorem us_of_trod {fuel : Nat} {cs : List Value} {x : DataW H × List MemPlace} (h : DataW.trod enc Try.prog w 0 (fun _ => true) true fuel 53 cs = some x) :
    ∃ A len cap xs, cs = [.slice A len cap] ∧ UsP w (fun _ => True) A len xs ∧ len ≤ cap ∧ cap ≤ maxLen := by
  have c22 : Try.prog.cellsOf 25 = 1 := by kernel_rfl
  rcases open_ints Try.underlying53 Try.underlying25 c22 h with ⟨hcs, _⟩ | ⟨x, l, c, zs, hcs, _, hl, hm, hz, _, hcell, hwz⟩
  · exact ⟨none, 0, 0, [], hcs, ⟨rfl, fun x hx => (by cases hx), fun h => absurd h (by omega)⟩, Nat.le_refl _, by unfold maxLen; exact Nat.zero_le _⟩
  · have hz : zs.length = c := by simpa using hz
    refine ⟨some x, l, c, zs.take l, hcs, ⟨by rw [List.length_take]; omega, fun y hy => ?_, fun hp => ?_⟩, hl, hm⟩
    · have := bounds_u64 (hwz y (List.mem_of_mem_take hy))
      omega
    · obtain ⟨b, off, spot⟩ := x
      have h0 := hcell 0 (by omega)
      have hs : spot = none := by simpa [Addr.add] using World.cell?_spot h0
      subst hs
      have h1 := hcell 0 (by omega)
      rw [addr_add] at h1
      refine ⟨b, off, rfl, cell_lt h1, trivial, fun i v hi => ?_⟩
      have hil : i < l := by have := (List.getElem?_eq_some_iff.1 hi).1; rw [List.length_take] at this; omega
      have h2 := hcell i (by omega)
      rw [addr_add] at h2
      rw [List.getElem?_take_of_lt hil] at hi
      rw [h2, List.getD_eq_getElem?_getD, hi]; rfl
set_option maxRecDepth 100000 in
theorem fx_of_trod {fuel : Nat} {cs : List Value} {x : DataW H × List MemPlace} (h : DataW.trod enc Try.prog w 0 (fun _ => true) true fuel 55 cs = some x) (hl8 : cs.length = 8) :
    ∃ d : FX, cs = d.l ∧ d.ok w (fun _ => True) := by
  have c3 : Try.prog.cellsOf 3 = 1 := by kernel_rfl
  have c22 : Try.prog.cellsOf 25 = 1 := by kernel_rfl
  have c23 : Try.prog.cellsOf 26 = 1 := by kernel_rfl
  have c24 : Try.prog.cellsOf 53 = 1 := by kernel_rfl
  have c5 : Try.prog.cellsOf 5 = 1 := by kernel_rfl
  have c4 : Try.prog.cellsOf 4 = 1 := by kernel_rfl
  obtain ⟨ys, n', _, _, hlen, hyl, hf⟩ := DataW.trod_struct Try.underlying55 h
  match cs, hl8 with
  | [u0, u1, u2, u3, u4, u5, u6, u7], _ =>
    match ys, hyl with
    | [y0, y1, y2, y3, y4, y5, y6, y7], _ =>
      have h0 : DataW.trod enc Try.prog w 0 (fun _ => true) true n' 3 (([u0, u1, u2, u3, u4, u5, u6, u7].drop 0).take (Try.prog.cellsOf 3)) = some y0 := hf 0 _ rfl
      have h1 : DataW.trod enc Try.prog w 0 (fun _ => true) true n' 25 (([u0, u1, u2, u3, u4, u5, u6, u7].drop 1).take (Try.prog.cellsOf 25)) = some y1 := hf 1 _ rfl
      have h2 : DataW.trod enc Try.prog w 0 (fun _ => true) true n' 25 (([u0, u1, u2, u3, u4, u5, u6, u7].drop 2).take (Try.prog.cellsOf 25)) = some y2 := hf 2 _ rfl
      have h3 : DataW.trod enc Try.prog w 0 (fun _ => true) true n' 25 (([u0, u1, u2, u3, u4, u5, u6, u7].drop 3).take (Try.prog.cellsOf 25)) = some y3 := hf 3 _ rfl
      have h4 : DataW.trod enc Try.prog w 0 (fun _ => true) true n' 26 (([u0, u1, u2, u3, u4, u5, u6, u7].drop 4).take (Try.prog.cellsOf 26)) = some y4 := hf 4 _ rfl
      have h5 : DataW.trod enc Try.prog w 0 (fun _ => true) true n' 4 (([u0, u1, u2, u3, u4, u5, u6, u7].drop 5).take (Try.prog.cellsOf 4)) = some y5 := hf 5 _ rfl
      have h6 : DataW.trod enc Try.prog w 0 (fun _ => true) true n' 53 (([u0, u1, u2, u3, u4, u5, u6, u7].drop 6).take (Try.prog.cellsOf 53)) = some y6 := hf 6 _ rfl
      have h7 : DataW.trod enc Try.prog w 0 (fun _ => true) true n' 3 (([u0, u1, u2, u3, u4, u5, u6, u7].drop 7).take (Try.prog.cellsOf 3)) = some y7 := hf 7 _ rfl
      rw [c3] at h0 h7
      rw [c22] at h1 h2 h3
      rw [c23] at h4
      rw [c4] at h5
      rw [c24] at h6
      obtain ⟨k0, e0, _, w0⟩ := DataW.trod_int Try.underlying3 h0
      obtain ⟨k1, e1, _, w1⟩ := DataW.trod_int Try.underlying25 h1
      obtain ⟨k2, e2, _, w2⟩ := DataW.trod_int Try.underlying25 h2
      obtain ⟨k3, e3, _, w3⟩ := DataW.trod_int Try.underlying25 h3
      obtain ⟨A, l, c, bs, e4, hr⟩ := inRow_of_trod Try.underlying26 Try.underlying5 c5 h4
      obtain ⟨b, e5, _⟩ := DataW.trod_bool Try.underlying4 h5
      obtain ⟨A6, l6, cap6, xs, e6, hu, hlc, hcm⟩ := us_of_trod h6
      obtain ⟨k7, e7, _, w7⟩ := DataW.trod_int Try.underlying3 h7
      obtain rfl : u0 = .int .i64 k0 := by simpa using e0
      obtain rfl : u1 = .int .u64 k1 := by simpa using e1
      obtain rfl : u2 = .int .u64 k2 := by simpa using e2
      obtain rfl : u3 = .int .u64 k3 := by simpa using e3
      obtain rfl : u4 = .slice A l c := by simpa using e4
      obtain rfl : u5 = .bool b := by simpa using e5
      obtain rfl : u6 = .slice A6 l6 cap6 := by simpa using e6
      obtain rfl : u7 = .int .i64 k7 := by simpa using e7
      have b1 := bounds_u64 w1
      have b2 := bounds_u64 w2
      have b3 := bounds_u64 w3
      exact ⟨⟨k0, k1, k2, k3, ⟨A, l, c⟩, b, ⟨A6, l6, cap6⟩, k7, bs, xs⟩, rfl, ⟨bounds_i64 w0, ⟨b1.1, by have := b1.2; show k1 < _; omega⟩, ⟨b2.1, by have := b2.2; show k2 < _; omega⟩, ⟨b3.1, by have := b3.2; show k3 < _; omega⟩, ⟨⟨hr.1, fun _ _ _ _ => trivial⟩, hr.2.1, hr.2.2.1, hr.2.2.2⟩, hu, hlc, hcm, bounds_i64 w7⟩⟩
theorem fxs_of_trod {fuel : Nat} {cs : List Value} {x : DataW H × List MemPlace} (h : DataW.trod enc Try.prog w 0 (fun _ => true) true fuel 37 cs = some x) :
    ∃ A n c X, cs = [.slice A n c] ∧ FxP w A n X ∧ n ≤ c ∧ c ≤ maxLen := by
  rcases open_slice Try.underlying37 h with ⟨rfl, _⟩ | ⟨a, len, cap, m, n, D, Pl, rfl, _, hl, hm, hmm, _, hi⟩
  · exact ⟨none, 0, 0, [], rfl, ⟨rfl, fun h => absurd h (by omega), fun x hx => by cases hx⟩, Nat.le_refl _, by unfold maxLen; omega⟩
  · obtain rfl : m = cap := by simpa using hmm
    have hC : Try.prog.cellsOf 55 = 8 := by kernel_rfl
    rw [hC] at hi
    obtain ⟨b, off, spot⟩ := a
    have hspot : 0 < len → spot = none := by
      intro hp
      obtain ⟨cs', hc, _⟩ := hi 0 (by omega)
      obtain ⟨_, hcl, hat⟩ := World.cells?_some hc
      have h0 := hat 0 (by omega)
      rw [List.getElem?_eq_getElem (by omega)] at h0
      simpa [Addr.add] using World.cell?_spot h0
    have each : ∀ i, i < len → ∃ d : FX, spot = none ∧ b < w.heap.size ∧ w.rangeAt b (off + i * 8) d.l ∧ d.ok w (fun _ => True) := by
      intro i hil
      obtain ⟨cs', hc, ht⟩ := hi i (by omega)
      obtain ⟨_, hcl, hat⟩ := World.cells?_some hc
      obtain ⟨d, rfl, hok⟩ := fx_of_trod ht hcl
      have h0 := hat 0 (by omega)
      rw [show d.l[0]? = some (.int .i64 d.K) from rfl] at h0
      have hs : spot = none := hspot (by omega)
      subst hs
      rw [addr_add, addr_add] at h0
      refine ⟨d, rfl, cell_lt h0, fun j v hv => ?_, hok⟩
      have hj := hat j (by have := (List.getElem?_eq_some_iff.1 hv).1; omega)
      rw [addr_add, addr_add] at hj
      rw [hj, hv]
    obtain ⟨L, hL, hp⟩ := choose_list len each
    refine ⟨_, len, m, L, rfl, ⟨hL, fun hpos => ?_, fun x hx => ?_⟩, hl, hm⟩
    · obtain ⟨d, hd⟩ : ∃ d, L[0]? = some d := ⟨_, List.getElem?_eq_getElem (by omega)⟩
      obtain ⟨hs, hb, _⟩ := hp 0 d hd
      subst hs
      exact ⟨b, off, rfl, hb, fun i d hd => (hp i d hd).2.2.1⟩
    · obtain ⟨i, hi', e⟩ := List.mem_iff_getElem.1 hx
      exact (hp i x (by rw [List.getElem?_eq_getElem hi', e])).2.2.2
end
theorem sameB_ask (m : FN) (ds : List Int) (rs : RS) : sameB (askN m) m (askDs m.k ds) ds (askRs m.k rs) rs = true ∧ sameB m (askN m) ds (askDs m.k ds) rs (askRs m.k rs) = true := by
  obtain ⟨k, s, o, fin, l, c, f, q, y, c0, c1, c2, c3, c4, c5, c6, c7⟩ := m
  rcases kind_cases k with rfl | rfl | rfl | rfl | rfl | rfl | rfl | rfl | rfl | rfl | rfl | rfl | rfl | rfl | rfl | rfl | rfl | hx
  all_goals first
    | (simp [sameB, askN, askDs, askRs, FN.zero, cidB]; done)
    | (simp only [beq_eq_false_iff_ne] at hx
       simp [sameB, askN, askDs, askRs, FN.zero, cidB, hx])
theorem listsB_ask : ∀ L M : List FR, M.map FR.fd = L.map FR.asked → listsB L M = true
  | [], [], _ => rfl
  | [], _ :: _, h => by simp at h
  | _ :: _, [], h => by simp at h
  | x :: t, y :: u, h => by
    simp only [List.map_cons, List.cons.injEq] at h
    obtain ⟨h1, h2⟩ := h
    unfold FR.fd FR.asked at h1
    simp only [Prod.mk.injEq] at h1
    obtain ⟨e1, e2, e3⟩ := h1
    unfold listsB
    rw [e1, e2, e3, (sameB_ask x.m x.ds x.rs).2, listsB_ask t u h2]; rfl
theorem enc_ge : ∀ L : List FR, L.all FR.right = true → L.length ≤ (encS L).length
  | [], _ => by simp
  | x :: t, h => by
    simp only [List.all_cons, Bool.and_eq_true] at h
    have h1 := one_pos x.m x.ds x.rs h.1
    have h2 := enc_ge t h.2
    have e : encS (x :: t) = oneS x.m x.ds x.rs ++ encS t := by simp [encS]
    rw [e, List.length_append, List.length_cons]; omega
theorem enc_drop (L : List FR) (j : Nat) (x : FR) (h : L[j]? = some x) : encS (L.drop j) = oneS x.m x.ds x.rs ++ encS (L.drop (j + 1)) := by
  obtain ⟨hk, e⟩ := List.getElem?_eq_some_iff.1 h
  rw [List.drop_eq_getElem_cons hk, e]; simp [encS]
theorem all_drop (L : List FR) (j : Nat) (h : L.all FR.right = true) : (L.drop j).all FR.right = true := by
  rw [List.all_eq_true] at h ⊢
  exact fun x hx => h x (List.mem_of_mem_drop hx)
def pingF : FR := ⟨FN.zero 1, .nil, .nil, [], []⟩
theorem ping_right : rightB (FN.zero 1) [] [] = true := by decide
theorem ping_one : oneS (FN.zero 1) [] [] = [1] := by decide
theorem read_nil : readO ([], false) = none := by decide
theorem Fits.zero_ (w : World) (P : Nat → Prop) (k : Int) (h0 : -9223372036854775808 ≤ k) (h1 : k ≤ 9223372036854775807) : Fits w P (FN.zero k) .nil .nil [] [] := ⟨wf_zero k h0 h1, InD.nil_ _ _, InR.nil_ _ _⟩
theorem ping_text : strOfNums [1] = ⟨#[1]⟩ := rfl
theorem one_frs (w : World) (x : FR) (P : Nat → Prop) (g : Nat) (hA : At w g 31 (frL x.m x.d x.r)) (hP : P g) (hf : Fits w P x.m x.d x.r x.ds x.rs) : FrsP w P (some ⟨g, 0, none⟩) 1 [x] := by
  refine ⟨rfl, fun _ => ⟨g, 0, rfl, hA.lt, hP, fun i y hy => ?_⟩, fun y hy => by simp at hy; subst hy; exact hf⟩
  match i with
  | 0 => simp at hy; subst hy; exact hA.rangeAt
  | i + 1 => simp at hy
set_option maxRecDepth 100000 in
set_option maxHeartbeats 1000000 in
theorem fknown_any (w : World) : Calls Try.prog 14 #[] w (FrPost (.bool true) w) := by
  have hSZ := Lib.hid (fun W => fsize_any (fun _ => True) (FN.zero 1) .nil .nil [] [] W (Fits.zero_ _ _ 1 (by decide) (by decide)))
  have hs1 : sizeF (FN.zero 1) [] [] = 1 := by unfold sizeF; rw [if_pos ping_right, ping_one]; rfl
  rw [hs1] at hSZ
  have hA2 := Lib.hid (fun W => fasks_any (FN.zero 2) .nil .nil W)
  have hA1 := Lib.hid (fun W => fasks_any (FN.zero 1) .nil .nil W)
  rw [show asksB (FN.zero 2).k = false from by decide] at hA2
  rw [show asksB (FN.zero 1).k = true from by decide] at hA1
  have hC := At.new w 31 (frL (FN.zero 1) .nil .nil)
  have hE := encode_any (fun _ => True) (some ⟨w.heap.size, 0, none⟩) 1 1 [pingF] (w.alloc (.cells (frL (FN.zero 1) .nil .nil).toArray 31)) (one_frs _ pingF _ _ hC trivial (Fits.zero_ _ _ 1 (by decide) (by decide))) (by decide) (by decide)
  have HE := Lib.hid hE
  have hb0 : Below w.heap.size w (w.alloc (.cells (frL (FN.zero 1) .nil .nil).toArray 31)) := (Below.refl _ _).alloc (Nat.le_refl _) _
  clear hE hC hs1
  go_enter Try.func14, Try.ntmps14
  go_wp2_with (first | (refine wpList_bs1 (frL (FN.zero 1) .nil .nil) w.heap.size rfl (by rfl) rfl ?_) | fail)
  refine HE.out.mono ?_
  rintro e w1 ⟨h1, h2, hb1⟩
  obtain ⟨v, rfl, hown⟩ := h1 (by simp [pingF, FR.right, ping_right])
  have hen : encS [pingF] = [1] := by simp [encS, pingF, ping_one]
  rw [hen] at hown
  obtain ⟨A, c, rfl, hc1, hc2, hr⟩ := hown.open_n 1 rfl
  have hb1 := hb0.trans (hb1.mono hb0.size)
  clear h2 h1 HE hown hb0 hen
  go_wp2_with fail
  refine (decode_any none 0 0 [] w1 (Rd.none_ _ _ _) (by decide) (fun _ => rfl)).mono ?_
  intro e w2 hpost
  unfold DecPost at hpost
  rw [read_nil] at hpost
  obtain ⟨rfl, hb2⟩ := hpost
  have hb12 := hb1.trans (hb2.mono hb1.size)
  have hb3 := hb12.alloc hb12.size (.cells (frL (FN.zero 0) .nil .nil).toArray 31)
  have hr3 := (hr.below hb2).alloc hb2.size (.cells (frL (FN.zero 0) .nil .nil).toArray 31)
  obtain ⟨w3, hw3⟩ : ∃ x, w2.alloc (.cells (frL (FN.zero 0) .nil .nil).toArray 31) = x := ⟨_, rfl⟩
  rw [hw3] at hb3 hr3
  have ht := run_text (P := Try.prog) (c := c) hr3 26 5 9 Try.underlying26 Try.underlying5 Try.underlying9
  rw [ping_text] at ht
  clear hb12 hb2 hb1 hr
  go_wp2_with (first | ((with_reducible refine at_st (x := .tmp 3) ?_); refine st_top w2 (frL (FN.zero 0) .nil .nil) (frL (FN.zero 0) .nil .nil) (by rfl) _ (by rfl) (by rfl) (by rfl) rfl rfl (by rfl) ?_; rw [hw3]; clear hw3) | fail)
  refine (hA2.out _).mono ?_
  rintro e w4 ⟨rfl, hb4⟩
  have hb4 := hb3.trans (hb4.mono hb3.size)
  go_wp2_with fail
  refine (hA1.out _).mono ?_
  rintro e w5 ⟨rfl, hb5⟩
  have hb5 := hb4.trans (hb5.mono hb4.size)
  go_wp2_with fail
  refine (hSZ.out _).mono ?_
  rintro e w6 ⟨rfl, hb6⟩
  have hb6 := hb5.trans (hb6.mono hb5.size)
  go_wp2_with fail
  go_ret
  exact ⟨rfl, hb6⟩
structure FbS (w wr : World) (A1 : Option Addr) (mm : Nat) (L : List FR) (j : Nat) (A' : Option Addr) (n' : Nat) : Prop where
  rd : Rd wr wr.heap.size A' n' (encS (L.drop j))
  bl : Below w.heap.size w wr
  fr : FrsP wr (fun _ => True) A1 mm L
set_option maxRecDepth 100000 in
set_option maxHeartbeats 8000000 in
theorem fback_walk (A : Option Addr) (n c : Nat) (X : List FX) (w : World) (hX : FxP w A n X) (hnc : n ≤ c) (hc : c ≤ maxLen) :
    Calls Try.prog 5 #[.slice A n c] w fun e w'' => e = .returned (.bool true) ∧ Below w.heap.size w w'' := by
  have HK := Lib.hid (kframes_any A n c X 10 w hX hnc hc (by decide))
  clear hX hnc hc
  have hm10 : min n 10 ≤ 10 := Nat.min_le_right _ _
  obtain ⟨mm, hmm⟩ : ∃ x, min n 10 = x := ⟨_, rfl⟩
  rw [hmm] at HK hm10
  clear hmm
  go_enter Try.func5, Try.ntmps5
  go_wp2_with fail
  refine HK.out.mono ?_
  rintro e w1 ⟨A1, c1, L, rfl, hfr, hmc, hcm, hall, hb1⟩
  clear HK
  unfold maxLen at hcm
  have HLL := Lib.hid hfr.1
  go_wp2_with fail
  refine (encode_any (fun _ => True) A1 mm c1 L w1 hfr (by omega) hmc).mono ?_
  rintro e w2 ⟨h1, _, hb2⟩
  obtain ⟨v, rfl, hown⟩ := h1 hall
  have hwf : ∀ x ∈ L, x.m.wf := fun x hx => (hfr.2.2 x hx).wf
  have hlen := encS_len L hall
  rw [HLL.out] at hlen
  have hge := enc_ge L hall
  have hal : L ≠ [] → allO ((encS L).length + 1) (encS L, false) = some (L.map FR.asked) := fun h => all_enc L _ h (by omega) hall hwf
  obtain ⟨nE, hnE⟩ : ∃ x, (encS L).length = x := ⟨_, rfl⟩
  obtain ⟨A2, c2, rfl, q1, q2, hr2⟩ := hown.open_n nE hnE
  have hnil2 := hown.nil_cap
  unfold maxLen at q2
  rw [hnE] at hlen hge hal
  have hB2 := hb1.trans (hb2.mono hb1.size)
  have hfr2 := hfr.below hb2
  have HAL := Lib.hid hal
  have HALL := Lib.hid hall
  have HWF := Lib.hid hwf
  have HNE := Lib.hid hnE
  clear hown h1 hb2 hb1 hfr hal hall hwf hnE
  rcases Nat.eq_zero_or_pos mm with h0 | hpos
  · subst h0
    obtain rfl : nE = 0 := by omega
    clear HAL hge hlen
    go_wp2_with fail
    refine (fknown_any _).mono ?_
    rintro e w3 ⟨rfl, hb3⟩
    go_wp2_with fail
    go_ret
    exact ⟨rfl, hB2.trans (hb3.mono hB2.size)⟩
  · have hLne : L ≠ [] := fun e => by have := HLL.out; rw [e] at this; simp at this; omega
    have hm0 : ((mm : Int) == 0) = false := beq_eq_false_iff_ne.2 (by omega)
    go_wp2_with fail
    refine (all_any A2 nE c2 (encS L) w2 hr2 (by omega) hnil2).mono ?_
    intro e w3 hpost
    unfold AllPost at hpost
    rw [HNE.out, HAL.out hLne] at hpost
    obtain ⟨⟨A3, n3, c3, M, rfl, hfm, hm1, hm2, hmap⟩, hb3⟩ := hpost
    have hli := listsB_ask L M hmap
    have hB3 := hB2.trans (hb3.mono hB2.size)
    have hfr3 := hfr2.below hb3
    have hr3 := (hr2.below hb3).more hb3.size
    have HLI := Lib.hid (lists_any (fun _ => True) (fun b => w2.heap.size ≤ b) A1 A3 mm n3 c1 c3 L M w3 hfr3 hfm (by omega))
    rw [hli] at HLI
    clear hb3 hB2 hfr2 hr2 hmap hli hfm HAL hLne hge
    go_wp2_with fail
    refine HLI.out.mono ?_
    rintro e w4 ⟨rfl, hb4⟩
    have HI : Hid (FbS w w4 A1 mm L 0 A2 nE) := Lib.hid ⟨(hr3.below hb4).more hb4.size, hB3.trans (hb4.mono hB3.size), hfr3.below hb4⟩
    clear HLI hb4 hr3 hB3 hfr3
    go_wp2_with fail
    go_loopw [4, 8, 9] (fun b s i wr => ∃ (j sm : Nat) (A' : Option Addr) (n' c' : Nat), b = .slice A' n' c' ∧ s = .int .i64 sm ∧ i = .int .i64 j ∧ j ≤ mm ∧ sm ≤ 10000 * j ∧ (j = 0 ∨ 0 < sm) ∧ n' ≤ c' ∧ c' ≤ 2 ^ 63 - 1 ∧ n' ≤ 808 * mm ∧ (A' = none → c' = 0) ∧ Hid (FbS w wr A1 mm L j A' n')) (fun _ _ i _ => mm - (intOf i).toNat)
    case atStart => exact ⟨0, 0, _, _, _, rfl, rfl, rfl, by omega, by omega, .inl rfl, q1, q2, hlen, hnil2, HI⟩
    case round =>
      clear HI
      obtain ⟨j, sm, A', n', c', rfl, rfl, rfl, hjm, hsm, hs0, hnc', hcm', hn8, hnil', hat⟩ := hrel
      by_cases hj : j < mm
      · obtain ⟨x, hx⟩ : ∃ x, L[j]? = some x := ⟨_, List.getElem?_eq_getElem (by rw [HLL.out]; exact hj)⟩
        have hxm := List.mem_of_getElem? hx
        have hrx : x.right = true := List.all_eq_true.1 HALL.out x hxm
        have hfx := hat.out.fr.2.2 x hxm
        obtain ⟨b1, off1, rfl, hbl1, _, hcl⟩ := hat.out.fr.2.1 (by omega)
        have hra := hcl j x hx
        have hed := enc_drop L j x hx
        have hrd := read_app x.m x.ds x.rs (encS (L.drop (j + 1))) (HWF.out x hxm) hrx
        rw [← hed] at hrd
        have hq8 : (oneS x.m x.ds x.rs).length ≤ 808 := by have := encS_len [x] (by simp [hrx]); simpa [encS] using this
        have hq1 := one_pos x.m x.ds x.rs hrx
        have hszf : sizeF x.m x.ds x.rs = ((oneS x.m x.ds x.rs).length : Int) := by unfold sizeF; exact if_pos hrx
        have HSZ := Lib.hid (fun W h => fsize_any (fun _ => True) x.m x.d x.r x.ds x.rs W h)
        rw [hszf] at HSZ
        have hel : n' = (oneS x.m x.ds x.rs).length + (encS (L.drop (j + 1))).length := by have := hat.out.rd.1; rw [hed, List.length_append] at this; omega
        have hdr : encS (L.drop (j + 1)) = (encS (L.drop j)).drop (oneS x.m x.ds x.rs).length := by rw [hed]; simp
        obtain ⟨q, hq⟩ : ∃ z, (oneS x.m x.ds x.rs).length = z := ⟨_, rfl⟩
        rw [hq] at HSZ hq8 hq1 hel hdr
        have hrd5 := hat.out.rd
        have hlE : (encS (L.drop j)).length = n' := hrd5.1
        have hlE2 : (encS (L.drop (j + 1))).length = n' - q := by omega
        obtain ⟨Ej, hEj⟩ : ∃ z, encS (L.drop j) = z := ⟨_, rfl⟩
        obtain ⟨Ek, hEk⟩ : ∃ z, encS (L.drop (j + 1)) = z := ⟨_, rfl⟩
        rw [hEj] at hrd hrd5 hlE hdr
        rw [hEk] at hrd hlE2 hdr
        obtain ⟨fl, hfl⟩ : ∃ fl, frL x.m x.d x.r = fl := ⟨_, rfl⟩
        have hLl : fl.length = 19 := by rw [← hfl]; rfl
        have hfv : frV x.m x.d x.r = .agg fl.toArray := by rw [← hfl]; rfl
        have hsb := (sameB_ask x.m x.ds x.rs).1
        have HSM := Lib.hid (fun W d' r' a1 a2 => rsame_any (fun _ => True) (askN x.m) x.m d' x.d r' x.r (askDs x.m.k x.ds) x.ds (askRs x.m.k x.rs) x.rs W a1 a2)
        rw [hsb] at HSM
        rw [hfl] at hra
        rw [hfv] at HSZ HSM
        have hfr := hat.out.fr
        have hbl := hat.out.bl
        have HLl := Lib.hid hLl
        have HRD := Lib.hid hrd
        have HEK := Lib.hid hEk
        have HDR := Lib.hid hdr
        have HL2 := Lib.hid hlE2
        have HL1 := Lib.hid hlE
        have hqn' : q ≤ n' := by omega
        clear hat hfl hfv hLl hsb hszf hed hrd hEj hEk hq hcl hxm hrx hx hdr hlE2 hlE hel
        go_wp2_with (first | ((with_reducible refine at_ld (x := .tmp 53) ?_); refine ld_fr_o b1 (off1 + j * 19) fl (by rfl) (by rfl) hra HLl.out ?_) | fail)
        refine (HSZ.out _ hfx).mono ?_
        rintro e w5 ⟨rfl, hb5⟩
        have hfx5 := hfx.below hb5
        have hfr5 := hfr.below hb5
        have hB5 := hbl.trans (hb5.mono hbl.size)
        have hr5 := (hrd5.below hb5).more hb5.size
        have hra5 := rangeAt_kept hra (Kept.of_below hb5 (fun _ => False)) hbl1 (fun h => h)
        have hbl5 : b1 < w5.heap.size := by have := hb5.size; omega
        clear hfx hfr hbl hrd5 hra hb5 HSZ
        go_wp2_with fail
        refine (decode_any A' n' c' Ej w5 hr5 (by omega) hnil').mono ?_
        intro e w6 hpost
        unfold DecPost at hpost
        rw [HRD.out] at hpost
        obtain ⟨⟨d', r', rfl, hf6⟩, hb6⟩ := hpost
        simp only at hf6 ⊢
        have hqv : ((Ej.length : Int) - (Ek.length : Int)) = (q : Int) := by rw [HL1.out, HL2.out]; omega
        rw [hqv]
        have hfx6 := hfx5.below hb6
        have hfr6 := hfr5.below hb6
        have hB6 := hB5.trans (hb6.mono hB5.size)
        have hr6 := (hr5.below hb6).more hb6.size
        have hra6 := rangeAt_kept hra5 (Kept.of_below hb6 (fun _ => False)) hbl5 (fun h => h)
        have hbl6 : b1 < w6.heap.size := by have := hb6.size; omega
        have hf6 := hf6.mono (P' := fun _ => True) (fun _ _ _ => trivial)
        have HSM2 := Lib.hid (fun W a1 a2 => HSM.out W d' r' a1 a2)
        obtain ⟨gl, hgl⟩ : ∃ l, frL (askN x.m) d' r' = l := ⟨_, rfl⟩
        have hGl : gl.length = 19 := by rw [← hgl]; rfl
        have hGo : gl.all (·.oneCell') = true := by rw [← hgl]; rfl
        have hgv : frV (askN x.m) d' r' = .agg gl.toArray := by rw [← hgl]; rfl
        rw [hgv] at HSM2 ⊢
        have HGl := Lib.hid hGl
        have HGo := Lib.hid hGo
        clear hb6 hfx5 hfr5 hB5 hr5 hra5 hbl5 hgl hgv HSM HRD hGl hGo hqv
        have hb7 : Below w6.heap.size w6 (w6.alloc (.cells gl.toArray 31)) := (Below.refl _ _).alloc (Nat.le_refl _) _
        have hA7 := At.new w6 31 gl
        have hfx7 := hfx6.below hb7
        have hfr7 := hfr6.below hb7
        have hf7 := hf6.below hb7
        have hB7 := hB6.trans (hb7.mono hB6.size)
        have hr7 := (hr6.below hb7).more hb7.size
        have hra7 := rangeAt_kept hra6 (Kept.of_below hb7 (fun _ => False)) hbl6 (fun h => h)
        have hbl7 : b1 < (w6.alloc (.cells gl.toArray 31)).heap.size := by have := hb7.size; omega
        obtain ⟨gA, hgA⟩ : ∃ g, w6.heap.size = g := ⟨_, rfl⟩
        rw [hgA] at hA7
        obtain ⟨w7, hw7⟩ : ∃ z, w6.alloc (.cells gl.toArray 31) = z := ⟨_, rfl⟩
        rw [hw7] at hA7 hfx7 hfr7 hf7 hB7 hr7 hra7 hbl7
        have HW7 := Lib.hid hw7
        have HGA := Lib.hid hgA
        clear hfx6 hfr6 hf6 hB6 hr6 hra6 hbl6 hb7 hw7 hgA
        go_wp2_with (first | ((with_reducible refine at_st (x := .tmp 10) ?_); refine st_top w6 (frL (FN.zero 0) .nil .nil) gl (by rfl) gA (by first | rfl | exact congrArg (fun g => Value.pointer (some ⟨g, 0, none⟩)) HGA.out) HGA.out.symm (by rfl) rfl HGl.out HGo.out ?_; rw [HW7.out]) | fail)
        (try rw [HGA.out])
        have hf8 := hf7.below (below_drew (Below.refl _ w7))
        have hfx8 := hfx7.below (below_drew (Below.refl _ w7))
        have hra8 : w7.drew.rangeAt b1 (off1 + j * 19) fl := hra7
        have hbl8 : b1 < w7.drew.heap.size := hbl7
        have hB8 := below_drew hB7
        have hqq : ((q : Int) < 1) = False := by simp; omega
        have hqn : ((n' : Int) < (q : Int)) = False := by simp; omega
        have hqd : decide ((q : Int) < 1) = false := decide_eq_false (by omega)
        have hqe : decide ((q : Int) > (n' : Int)) = false := decide_eq_false (by omega)
        have hqf : decide ((n' : Int) < (q : Int)) = false := decide_eq_false (by omega)
        refine wp_region_held_drew (S := (fun w' => w'.rangeAt gA 0 gl ∧ w'.rangeAt b1 (off1 + j * 19) fl)) (by kernel_rfl) (⟨hA7.drew.rangeAt, hra8⟩) (fun hHeld => ?_)
        refine take_dst (i := 0) (dst := some 63) rfl rfl (by kernel_rfl) (by kernel_rfl) (by kernel_rfl) (fun _ _ _ h => h) (v := ?_) (Or.inl ⟨by rfl, ?_⟩) (by assumption) ?_
        rotate_left
        · intro w hSw; (try dsimp only at hSw); go_simp; first | done | (with_reducible rfl)
        simp only [Act.put, List.setIfInBounds_toArray, List.set_cons_zero, List.set_cons_succ]
        refine take_dst (i := 1) (dst := some 64) rfl rfl (by kernel_rfl) (by kernel_rfl) (by kernel_rfl) (fun _ _ _ h => h) (v := ?_) (Or.inl ⟨by rfl, ?_⟩) (by assumption) ?_
        rotate_left
        · intro w hSw; (try dsimp only at hSw); go_simp; first | done | (with_reducible rfl)
        simp only [Act.put, List.setIfInBounds_toArray, List.set_cons_zero, List.set_cons_succ]
        refine take_dst (i := 2) (dst := some 65) rfl rfl (by kernel_rfl) (by kernel_rfl) (by kernel_rfl) (fun _ _ _ h => h) (v := ?_) (Or.inl ⟨by rfl, ?_⟩) (by assumption) ?_
        rotate_left
        · intro w hSw; (try dsimp only at hSw); go_simp; first | done | (with_reducible rfl)
        simp only [Act.put, List.setIfInBounds_toArray, List.set_cons_zero, List.set_cons_succ]
        refine take_dst (i := 3) (dst := some 66) rfl rfl (by kernel_rfl) (by kernel_rfl) (by kernel_rfl) (fun _ _ _ h => h) (v := ?_) (Or.inl ⟨by rfl, ?_⟩) (by assumption) ?_
        rotate_left
        · intro w hSw; (try dsimp only at hSw); go_simp; first | done | (with_reducible rfl)
        simp only [Act.put, List.setIfInBounds_toArray, List.set_cons_zero, List.set_cons_succ]
        refine take_dst (i := 4) (dst := some 67) rfl rfl (by kernel_rfl) (by kernel_rfl) (by kernel_rfl) (fun _ _ _ h => h) (v := ?_) (Or.inl ⟨by rfl, ?_⟩) (by assumption) ?_
        rotate_left
        · intro w hSw; (try dsimp only at hSw); go_simp; first | done | (with_reducible rfl)
        simp only [Act.put, List.setIfInBounds_toArray, List.set_cons_zero, List.set_cons_succ]
        refine take_dst (i := 5) (dst := some 68) rfl rfl (by kernel_rfl) (by kernel_rfl) (by kernel_rfl) (fun _ _ _ h => h) (v := ?_) (Or.inl ⟨by rfl, ?_⟩) (by assumption) ?_
        rotate_left
        · intro w hSw; (try dsimp only at hSw); go_simp; first | done | (with_reducible rfl)
        simp only [Act.put, List.setIfInBounds_toArray, List.set_cons_zero, List.set_cons_succ]
        refine take_dst (i := 6) (dst := some 69) rfl rfl (by kernel_rfl) (by kernel_rfl) (by kernel_rfl) (fun _ _ _ h => h) (v := ?_) (Or.inl ⟨by rfl, ?_⟩) (by assumption) ?_
        rotate_left
        · intro w hSw; (try dsimp only at hSw); go_simp; first | done | (with_reducible rfl)
        simp only [Act.put, List.setIfInBounds_toArray, List.set_cons_zero, List.set_cons_succ]
        refine take_dst (i := 7) (dst := some 70) rfl rfl (by kernel_rfl) (by kernel_rfl) (by kernel_rfl) (fun _ _ _ h => h) (v := ?_) (Or.inl ⟨by rfl, ?_⟩) (by assumption) ?_
        rotate_left
        · intro w hSw; (try dsimp only at hSw); go_simp; first | done | (with_reducible rfl)
        simp only [Act.put, List.setIfInBounds_toArray, List.set_cons_zero, List.set_cons_succ]
        refine take_dst (i := 8) (dst := some 71) rfl rfl (by kernel_rfl) (by kernel_rfl) (by kernel_rfl) (fun _ _ _ h => h) (v := ?_) (Or.inl ⟨by rfl, ?_⟩) (by assumption) ?_
        rotate_left
        · intro w hSw; (try dsimp only at hSw); go_simp; first | done | (with_reducible rfl)
        simp only [Act.put, List.setIfInBounds_toArray, List.set_cons_zero, List.set_cons_succ]
        refine take_dst (i := 9) (dst := some 72) rfl rfl (by kernel_rfl) (by kernel_rfl) (by kernel_rfl) (fun _ _ _ h => h) (v := ?_) (Or.inl ⟨by rfl, ?_⟩) (by assumption) ?_
        rotate_left
        · intro w hSw; (try dsimp only at hSw); go_simp; first | done | (with_reducible rfl)
        simp only [Act.put, List.setIfInBounds_toArray, List.set_cons_zero, List.set_cons_succ]
        refine take_dst (i := 10) (dst := some 73) rfl rfl (by kernel_rfl) (by kernel_rfl) (by kernel_rfl) (fun _ _ _ h => h) (v := ?_) (Or.inl ⟨by rfl, ?_⟩) (by assumption) ?_
        rotate_left
        · intro w hSw; (try dsimp only at hSw); go_simp; first | done | (with_reducible rfl)
        simp only [Act.put, List.setIfInBounds_toArray, List.set_cons_zero, List.set_cons_succ]
        refine take_dst (i := 11) (dst := some 74) rfl rfl (by kernel_rfl) (by kernel_rfl) (by kernel_rfl) (fun _ _ _ h => h) (v := ?_) (Or.inl ⟨by rfl, ?_⟩) (by assumption) ?_
        rotate_left
        · intro w hSw; (try dsimp only at hSw); go_simp; first | done | (with_reducible rfl)
        simp only [Act.put, List.setIfInBounds_toArray, List.set_cons_zero, List.set_cons_succ]
        refine take_dst (i := 12) (dst := some 75) rfl rfl (by kernel_rfl) (by kernel_rfl) (by kernel_rfl) (fun _ _ _ h => h) (v := ?_) (Or.inl ⟨by rfl, ?_⟩) (by assumption) ?_
        rotate_left
        · intro w hSw; (try dsimp only at hSw); go_simp; first | done | (with_reducible rfl)
        simp only [Act.put, List.setIfInBounds_toArray, List.set_cons_zero, List.set_cons_succ]
        refine take_dst (i := 13) (dst := some 76) rfl rfl (by kernel_rfl) (by kernel_rfl) (by kernel_rfl) (fun _ _ _ h => h) (v := ?_) ?_ (by assumption) ?_
        rotate_left
        · refine yl_fro ?ylx13 ?ylo13 ?ylb13 ?ylq13 ?ylp13 ?ylL13 ?ylS13 ?yll13 ?ylw13
          case ylo13 => rfl
          case ylp13 => rfl
          case ylS13 => intro w hSw; (try dsimp only at hSw); go_split_ands; assumption
          case yll13 => first | rfl | exact HGl.out | exact HLl.out
          case ylw13 => rfl
        simp only [Act.put, List.setIfInBounds_toArray, List.set_cons_zero, List.set_cons_succ]
        refine take_dst (i := 14) (dst := some 77) rfl rfl (by kernel_rfl) (by kernel_rfl) (by kernel_rfl) (fun _ _ _ h => h) (v := ?_) (Or.inl ⟨by rfl, ?_⟩) (by assumption) ?_
        rotate_left
        · intro w hSw; (try dsimp only at hSw); go_simp; first | done | (with_reducible rfl)
        simp only [Act.put, List.setIfInBounds_toArray, List.set_cons_zero, List.set_cons_succ]
        refine take_dst (i := 15) (dst := some 78) rfl rfl (by kernel_rfl) (by kernel_rfl) (by kernel_rfl) (fun _ _ _ h => h) (v := ?_) (Or.inl ⟨by rfl, ?_⟩) (by assumption) ?_
        rotate_left
        · intro w hSw; (try dsimp only at hSw); go_simp; first | done | (with_reducible rfl)
        simp only [Act.put, List.setIfInBounds_toArray, List.set_cons_zero, List.set_cons_succ]
        refine take_dst (i := 16) (dst := some 79) rfl rfl (by kernel_rfl) (by kernel_rfl) (by kernel_rfl) (fun _ _ _ h => h) (v := ?_) (Or.inl ⟨by rfl, ?_⟩) (by assumption) ?_
        rotate_left
        · intro w hSw; (try dsimp only at hSw); go_simp; first | done | (with_reducible rfl)
        simp only [Act.put, List.setIfInBounds_toArray, List.set_cons_zero, List.set_cons_succ]
        refine take_dst (i := 17) (dst := some 80) rfl rfl (by kernel_rfl) (by kernel_rfl) (by kernel_rfl) (fun _ _ _ h => h) (v := ?_) ?_ (by assumption) ?_
        rotate_left
        · refine yl_fro ?ylx17 ?ylo17 ?ylb17 ?ylq17 ?ylp17 ?ylL17 ?ylS17 ?yll17 ?ylw17
          case ylo17 => rfl
          case ylp17 => rfl
          case ylS17 => intro w hSw; (try dsimp only at hSw); go_split_ands; assumption
          case yll17 => first | rfl | exact HGl.out | exact HLl.out
          case ylw17 => rfl
        simp only [Act.put, List.setIfInBounds_toArray, List.set_cons_zero, List.set_cons_succ]
        refine wpAnyH_ready (rs := [18]) (by kernel_rfl) (by simp) ?_
        refine AllReadyH.cons rfl (fun K hK => ?_) AllReadyH.nil
        go_simp
        go_wp2_with ((go_at_call 10; refine (HSM2.out _ hf8 hfx8).mono ?_; rintro e w9 ⟨rfl, hb9⟩))
        refine hK.out _ _ (⟨rangeAt_kept hA7.drew.rangeAt (Kept.of_below hb9 (fun _ => False)) hA7.drew.lt (fun h => h), rangeAt_kept hra8 (Kept.of_below hb9 (fun _ => False)) hbl8 (fun h => h)⟩) (fun hHeld => ?_)
        clear hK K
        refine take_dst (i := 19) (dst := some 82) rfl rfl (by kernel_rfl) (by kernel_rfl) (by kernel_rfl) (fun _ _ _ h => h) (v := ?_) (Or.inl ⟨by rfl, ?_⟩) (by assumption) ?_
        rotate_left
        · intro w hSw; (try dsimp only at hSw); go_simp; first | done | (with_reducible rfl)
        simp only [Act.put, List.setIfInBounds_toArray, List.set_cons_zero, List.set_cons_succ]
        refine take_dst (i := 20) (dst := some 83) rfl rfl (by kernel_rfl) (by kernel_rfl) (by kernel_rfl) (fun _ _ _ h => h) (v := ?_) (Or.inl ⟨by rfl, ?_⟩) (by assumption) ?_
        rotate_left
        · intro w hSw; (try dsimp only at hSw); go_simp; first | done | (with_reducible rfl)
        simp only [Act.put, List.setIfInBounds_toArray, List.set_cons_zero, List.set_cons_succ]
        refine wpAnyH_done (by kernel_rfl) ?_ _
        have hs9 := hb9.size
        have hr9 : Rd w9 w9.heap.size A' n' Ej := ((hr7.below (below_drew (Below.refl _ w7))).more (Nat.le_refl _) |>.below hb9).more hb9.size
        have hB9 := hB8.trans (hb9.mono hB8.size)
        have hfr9 := (hfr7.below (below_drew (Below.refl _ w7))).below hb9
        have hcut := hr9.cutFrom (c := c') (k := q) (by omega) hnc'
        rw [← HDR.out, ← HEK.out] at hcut
        obtain ⟨ba, oa, rfl, _⟩ := hr9.2.2 (by omega)
        have HF : Hid (FbS w w9 (some ⟨b1, off1, none⟩) mm L (j + 1) (cutA (some ⟨ba, oa, none⟩) c' q) (n' - q)) := Lib.hid ⟨hcut, hB9, hfr9⟩
        clear hf7 hfx7 hf8 hfx8 hra7 hra8 hB7 hB8 hfr7 hfr9 hr7 hr9 hcut hHeld hqq hqn hqd hqe hqf hA7 hb9
        by_cases hcq : c' = q
        · have hca : cutA (some ⟨ba, oa, none⟩) c' q = some ⟨ba, oa, none⟩ := by unfold cutA; rw [if_pos hcq]
          rw [hca] at HF
          go_wp2_with fail
          go_roundw
          case rel => exact ⟨j + 1, sm + q, _, n' - q, c' - q, by go_num, by go_num, by go_num, by omega, by omega, .inr (by omega), by omega, by omega, by omega, (fun h => by cases h), HF⟩
          case measure => simp [intOf] <;> omega
        · have hca : cutA (some ⟨ba, oa, none⟩) c' q = some ⟨ba, oa + q, none⟩ := by unfold cutA; rw [if_neg hcq]; simp [Addr.add]; omega
          rw [hca] at HF
          go_wp2_with fail
          go_roundw
          case rel => exact ⟨j + 1, sm + q, _, n' - q, c' - q, by go_num, by go_num, by go_num, by omega, by omega, .inr (by omega), by omega, by omega, by omega, (fun h => by cases h), HF⟩
          case measure => simp [intOf] <;> omega
      · obtain rfl : j = mm := by omega
        have hd : L.drop j = [] := List.drop_eq_nil_of_le (by rw [HLL.out]; exact Nat.le_refl _)
        have hz : n' = 0 := by have := hat.out.rd.1; rw [hd] at this; simpa [encS] using this.symm
        subst hz
        have hB := hat.out.bl
        have hsp : (0 : Int) < (sm : Int) := by omega
        clear hat hd
        go_wp2_with fail
        refine (fknown_any _).mono ?_
        rintro e w5 ⟨rfl, hb5⟩
        go_wp2_with fail
        go_ret
        exact ⟨rfl, hB.trans (hb5.mono hB.size)⟩
end Go.Proofs.Ytiklelecoekkjaa
