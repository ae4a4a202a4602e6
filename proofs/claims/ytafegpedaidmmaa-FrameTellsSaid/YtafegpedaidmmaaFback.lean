/-
  Frames as they are drawn, that came in as a row: what their cells are.
-/
import Derived.Test.YtafegpedaidmmaaMb
import Derived.Test.YtafegpedaidmmaaKframes
import Derived.Test.YtafegpedaidmmaaLists
import Derived.Test.YtafegpedaidmmaaMi
import Derived.Test.YtafegpedaidmmaaMh
import Derived.Test.YtafegpedaidmmaaMf
import Derived.Test.YtafegpedaidmmaaFasks
namespace Go.Proofs.Ytafegpedaidmmaa
open Go.RowKit Go.ChangeShapes Go.WideShapes Go.Deep
set_option linter.unusedVariables false
set_option linter.unusedSimpArgs false
open Go.RowKit
section
variable {H : Type} {enc : TypeId × Value → H} {w : World}
theorem us_of_trod {fuel : Nat} {cs : List Value} {x : DataW H × List MemPlace} (h : DataW.trod enc Try.prog w 0 (fun _ => true) true fuel 53 cs = some x) :
    ∃ A len cap xs, cs = [.slice A len cap] ∧ UsP w (fun _ => True) A len xs ∧ len ≤ cap ∧ cap ≤ maxLen := by
  have c22 : Try.prog.cellsOf 25 = 1 := by kernel_rfl
  rcases open_ints Try.underlying53 Try.underlying25 c22 h with ⟨hcs, _⟩ | ⟨x, l, c, zs, hcs, _, hl, hm, hz, _, hcell, hwz⟩
  · exact ⟨none, 0, 0, [], hcs, ⟨rfl, fun x hx => (by cases hx), fun h => absurd h (by omega)⟩, Nat.le_refl _, by unfold maxLen; exact Nat.zero_le _⟩
  · have hz : zs.length = c := by simpa using hz
    refine ⟨some x, l, c, zs.take l, hcs, ⟨by rw [List.length_take]; omega, fun y hy => ?_, fun hp => ?_⟩, hl, hm⟩
    · have := bounds_u64 (hwz y (List.mem_of_mem_take hy))
      omega
    · obtain ⟨b, off, spot⟩ := x
      have h0 := hcell 0 (by omega)
      have hs : spot = none := by simpa [Addr.add] using World.cell?_spot h0
      subst hs
      have h1 := hcell 0 (by omega)
      rw [addr_add] at h1
      refine ⟨b, off, rfl, cell_lt h1, trivial, fun i v hi => ?_⟩
      have hil : i < l := by have := (List.getElem?_eq_some_iff.1 hi).1; rw [List.length_take] at this; omega
      have h2 := hcell i (by omega)
      rw [addr_add] at h2
      rw [List.getElem?_take_of_lt hil] at hi
      rw [h2, List.getD_eq_getElem?_getD, hi]; rfl
set_option maxRecDepth 100000 in
theorem fx_of_trod {fuel : Nat} {cs : List Value} {x : DataW H × List MemPlace} (h : DataW.trod enc Try.prog w 0 (fun _ => true) true fuel 55 cs = some x) (hl8 : cs.length = 8) :
    ∃ d : FX, cs = d.l ∧ d.ok w (fun _ => True) := by
  have c3 : Try.prog.cellsOf 3 = 1 := by kernel_rfl
  have c22 : Try.prog.cellsOf 25 = 1 := by kernel_rfl
  have c23 : Try.prog.cellsOf 26 = 1 := by kernel_rfl
  have c24 : Try.prog.cellsOf 53 = 1 := by kernel_rfl
  have c5 : Try.prog.cellsOf 5 = 1 := by kernel_rfl
  have c4 : Try.prog.cellsOf 4 = 1 := by kernel_rfl
  obtain ⟨ys, n', _, _, hlen, hyl, hf⟩ := DataW.trod_struct Try.underlying55 h
  match cs, hl8 with
  | [u0, u1, u2, u3, u4, u5, u6, u7], _ =>
    match ys, hyl with
    | [y0, y1, y2, y3, y4, y5, y6, y7], _ =>
      have h0 : DataW.trod enc Try.prog w 0 (fun _ => true) true n' 3 (([u0, u1, u2, u3, u4, u5, u6, u7].drop 0).take (Try.prog.cellsOf 3)) = some y0 := hf 0 _ rfl
      have h1 : DataW.trod enc Try.prog w 0 (fun _ => true) true n' 25 (([u0, u1, u2, u3, u4, u5, u6, u7].drop 1).take (Try.prog.cellsOf 25)) = some y1 := hf 1 _ rfl
      have h2 : DataW.trod enc Try.prog w 0 (fun _ => true) true n' 25 (([u0, u1, u2, u3, u4, u5, u6, u7].drop 2).take (Try.prog.cellsOf 25)) = some y2 := hf 2 _ rfl
      have h3 : DataW.trod enc Try.prog w 0 (fun _ => true) true n' 25 (([u0, u1, u2, u3, u4, u5, u6, u7].drop 3).take (Try.prog.cellsOf 25)) = some y3 := hf 3 _ rfl
      have h4 : DataW.trod enc Try.prog w 0 (fun _ => true) true n' 26 (([u0, u1, u2, u3, u4, u5, u6, u7].drop 4).take (Try.prog.cellsOf 26)) = some y4 := hf 4 _ rfl
      have h5 : DataW.trod enc Try.prog w 0 (fun _ => true) true n' 4 (([u0, u1, u2, u3, u4, u5, u6, u7].drop 5).take (Try.prog.cellsOf 4)) = some y5 := hf 5 _ rfl
      have h6 : DataW.trod enc Try.prog w 0 (fun _ => true) true n' 53 (([u0, u1, u2, u3, u4, u5, u6, u7].drop 6).take (Try.prog.cellsOf 53)) = some y6 := hf 6 _ rfl
      have h7 : DataW.trod enc Try.prog w 0 (fun _ => true) true n' 3 (([u0, u1, u2, u3, u4, u5, u6, u7].drop 7).take (Try.prog.cellsOf 3)) = some y7 := hf 7 _ rfl
      rw [c3] at h0 h7
      rw [c22] at h1 h2 h3
      rw [c23] at h4
      rw [c4] at h5
      rw [c24] at h6
      obtain ⟨k0, e0, _, w0⟩ := DataW.trod_int Try.underlying3 h0
      obtain ⟨k1, e1, _, w1⟩ := DataW.trod_int Try.underlying25 h1
      obtain ⟨k2, e2, _, w2⟩ := DataW.trod_int Try.underlying25 h2
      obtain ⟨k3, e3, _, w3⟩ := DataW.trod_int Try.underlying25 h3
      obtain ⟨A, l, c, bs, e4, hr⟩ := inRow_of_trod Try.underlying26 Try.underlying5 c5 h4
      obtain ⟨b, e5, _⟩ := DataW.trod_bool Try.underlying4 h5
      obtain ⟨A6, l6, cap6, xs, e6, hu, hlc, hcm⟩ := us_of_trod h6
      obtain ⟨k7, e7, _, w7⟩ := DataW.trod_int Try.underlying3 h7
      obtain rfl : u0 = .int .i64 k0 := by simpa using e0
      obtain rfl : u1 = .int .u64 k1 := by simpa using e1
      obtain rfl : u2 = .int .u64 k2 := by simpa using e2
      obtain rfl : u3 = .int .u64 k3 := by simpa using e3
      obtain rfl : u4 = .slice A l c := by simpa using e4
      obtain rfl : u5 = .bool b := by simpa using e5
      obtain rfl : u6 = .slice A6 l6 cap6 := by simpa using e6
      obtain rfl : u7 = .int .i64 k7 := by simpa using e7
      have b1 := bounds_u64 w1
      have b2 := bounds_u64 w2
      have b3 := bounds_u64 w3
      exact ⟨⟨k0, k1, k2, k3, ⟨A, l, c⟩, b, ⟨A6, l6, cap6⟩, k7, bs, xs⟩, rfl, ⟨bounds_i64 w0, ⟨b1.1, by have := b1.2; show k1 < _; omega⟩, ⟨b2.1, by have := b2.2; show k2 < _; omega⟩, ⟨b3.1, by have := b3.2; show k3 < _; omega⟩, ⟨⟨hr.1, fun _ _ _ _ => trivial⟩, hr.2.1, hr.2.2.1, hr.2.2.2⟩, hu, hlc, hcm, bounds_i64 w7⟩⟩
theorem fxs_of_trod {fuel : Nat} {cs : List Value} {x : DataW H × List MemPlace} (h : DataW.trod enc Try.prog w 0 (fun _ => true) true fuel 37 cs = some x) :
    ∃ A n c X, cs = [.slice A n c] ∧ FxP w A n X ∧ n ≤ c ∧ c ≤ maxLen := by
  rcases open_slice Try.underlying37 h with ⟨rfl, _⟩ | ⟨a, len, cap, m, n, D, Pl, rfl, _, hl, hm, hmm, _, hi⟩
  · exact ⟨none, 0, 0, [], rfl, ⟨rfl, fun h => absurd h (by omega), fun x hx => by cases hx⟩, Nat.le_refl _, by unfold maxLen; omega⟩
  · obtain rfl : m = cap := by simpa using hmm
    have hC : Try.prog.cellsOf 55 = 8 := by kernel_rfl
    rw [hC] at hi
    obtain ⟨b, off, spot⟩ := a
    have hspot : 0 < len → spot = none := by
      intro hp
      obtain ⟨cs', hc, _⟩ := hi 0 (by omega)
      obtain ⟨_, hcl, hat⟩ := World.cells?_some hc
      have h0 := hat 0 (by omega)
      rw [List.getElem?_eq_getElem (by omega)] at h0
      simpa [Addr.add] using World.cell?_spot h0
    have each : ∀ i, i < len → ∃ d : FX, spot = none ∧ b < w.heap.size ∧ w.rangeAt b (off + i * 8) d.l ∧ d.ok w (fun _ => True) := by
      intro i hil
      obtain ⟨cs', hc, ht⟩ := hi i (by omega)
      obtain ⟨_, hcl, hat⟩ := World.cells?_some hc
      obtain ⟨d, rfl, hok⟩ := fx_of_trod ht hcl
      have h0 := hat 0 (by omega)
      rw [show d.l[0]? = some (.int .i64 d.K) from rfl] at h0
      have hs : spot = none := hspot (by omega)
      subst hs
      rw [addr_add, addr_add] at h0
      refine ⟨d, rfl, cell_lt h0, fun j v hv => ?_, hok⟩
      have hj := hat j (by have := (List.getElem?_eq_some_iff.1 hv).1; omega)
      rw [addr_add, addr_add] at hj
      rw [hj, hv]
    obtain ⟨L, hL, hp⟩ := choose_list len each
    refine ⟨_, len, m, L, rfl, ⟨hL, fun hpos => ?_, fun x hx => ?_⟩, hl, hm⟩
    · obtain ⟨d, hd⟩ : ∃ d, L[0]? = some d := ⟨_, List.getElem?_eq_getElem (by omega)⟩
      obtain ⟨hs, hb, _⟩ := hp 0 d hd
      subst hs
      exact ⟨b, off, rfl, hb, fun i d hd => (hp i d hd).2.2.1⟩
    · obtain ⟨i, hi', e⟩ := List.mem_iff_getElem.1 hx
      exact (hp i x (by rw [List.getElem?_eq_getElem hi', e])).2.2.2
end
theorem sameB_ask (m : FN) (ds : List Int) (rs : RS) : sameB (askN m) m (askDs m.k ds) ds (askRs m.k rs) rs = true ∧ sameB m (askN m) ds (askDs m.k ds) rs (askRs m.k rs) = true := by
  obtain ⟨k, s, o, fin, l, c, f, q, y, c0, c1, c2, c3, c4, c5, c6, c7⟩ := m
  rcases kind_cases k with rfl | rfl | rfl | rfl | rfl | rfl | rfl | rfl | rfl | rfl | rfl | rfl | rfl | rfl | rfl | rfl | rfl | hx
  all_goals first
    | (simp [sameB, askN, askDs, askRs, FN.zero, cidB]; done)
    | (simp only [beq_eq_false_iff_ne] at hx
       simp [sameB, askN, askDs, askRs, FN.zero, cidB, hx])
def pingF : FR := ⟨FN.zero 1, .nil, .nil, [], []⟩
theorem ping_right : rightB (FN.zero 1) [] [] = true := by decide
theorem ping_one : oneS (FN.zero 1) [] [] = [1] := by decide
theorem read_nil : readO ([], false) = none := by decide
theorem Fits.zero_ (w : World) (P : Nat → Prop) (k : Int) (h0 : -9223372036854775808 ≤ k) (h1 : k ≤ 9223372036854775807) : Fits w P (FN.zero k) .nil .nil [] [] := ⟨wf_zero k h0 h1, InD.nil_ _ _, InR.nil_ _ _⟩
theorem ping_text : strOfNums [1] = ⟨#[1]⟩ := rfl
theorem one_frs (w : World) (x : FR) (P : Nat → Prop) (g : Nat) (hA : At w g 31 (frL x.m x.d x.r)) (hP : P g) (hf : Fits w P x.m x.d x.r x.ds x.rs) : FrsP w P (some ⟨g, 0, none⟩) 1 [x] := by
  refine ⟨rfl, fun _ => ⟨g, 0, rfl, hA.lt, hP, fun i y hy => ?_⟩, fun y hy => by simp at hy; subst hy; exact hf⟩
  match i with
  | 0 => simp at hy; subst hy; exact hA.rangeAt
  | i + 1 => simp at hy
set_option maxRecDepth 100000 in
set_option maxHeartbeats 1000000 in
theorem fknown_any (w : World) : Calls Try.prog 14 #[] w (FrPost (.bool true) w) := by
  have hSZ := Lib.hid (fun W => fsize_any (fun _ => True) (FN.zero 1) .nil .nil [] [] W (Fits.zero_ _ _ 1 (by decide) (by decide)))
  have hs1 : sizeF (FN.zero 1) [] [] = 1 := by unfold sizeF; rw [if_pos ping_right, ping_one]; rfl
  rw [hs1] at hSZ
  have hA2 := Lib.hid (fun W => fasks_any (FN.zero 2) .nil .nil W)
  have hA1 := Lib.hid (fun W => fasks_any (FN.zero 1) .nil .nil W)
  rw [show asksB (FN.zero 2).k = false from by decide] at hA2
  rw [show asksB (FN.zero 1).k = true from by decide] at hA1
  have hC := At.new w 31 (frL (FN.zero 1) .nil .nil)
  have hE := encode_any (fun _ => True) (some ⟨w.heap.size, 0, none⟩) 1 1 [pingF] (w.alloc (.cells (frL (FN.zero 1) .nil .nil).toArray 31)) (one_frs _ pingF _ _ hC trivial (Fits.zero_ _ _ 1 (by decide) (by decide))) (by decide) (by decide)
  have HE := Lib.hid hE
  have hb0 : Below w.heap.size w (w.alloc (.cells (frL (FN.zero 1) .nil .nil).toArray 31)) := (Below.refl _ _).alloc (Nat.le_refl _) _
  clear hE hC hs1
  go_enter Try.func14, Try.ntmps14
  go_wp2_with (first | (refine wpList_bs1 (frL (FN.zero 1) .nil .nil) w.heap.size rfl (by rfl) rfl ?_) | fail)
  refine HE.out.mono ?_
  rintro e w1 ⟨h1, h2, hb1⟩
  obtain ⟨v, rfl, hown⟩ := h1 (by simp [pingF, FR.right, ping_right])
  have hen : encS [pingF] = [1] := by simp [encS, pingF, ping_one]
  rw [hen] at hown
  obtain ⟨A, c, rfl, hc1, hc2, hr⟩ := hown.open_n 1 rfl
  have hb1 := hb0.trans (hb1.mono hb0.size)
  clear h2 h1 HE hown hb0 hen
  go_wp2_with fail
  refine (decode_any none 0 0 [] w1 (Rd.none_ _ _ _) (by decide) (fun _ => rfl)).mono ?_
  intro e w2 hpost
  unfold DecPost at hpost
  rw [read_nil] at hpost
  obtain ⟨rfl, hb2⟩ := hpost
  have hb12 := hb1.trans (hb2.mono hb1.size)
  have hb3 := hb12.alloc hb12.size (.cells (frL (FN.zero 0) .nil .nil).toArray 31)
  have hr3 := (hr.below hb2).alloc hb2.size (.cells (frL (FN.zero 0) .nil .nil).toArray 31)
  obtain ⟨w3, hw3⟩ : ∃ x, w2.alloc (.cells (frL (FN.zero 0) .nil .nil).toArray 31) = x := ⟨_, rfl⟩
  rw [hw3] at hb3 hr3
  have ht := run_text (P := Try.prog) (c := c) hr3 26 5 9 Try.underlying26 Try.underlying5 Try.underlying9
  rw [ping_text] at ht
  clear hb12 hb2 hb1 hr
  go_wp2_with (first | ((with_reducible refine at_st (x := .tmp 3) ?_); refine st_top w2 (frL (FN.zero 0) .nil .nil) (frL (FN.zero 0) .nil .nil) (by rfl) _ (by rfl) (by rfl) (by rfl) rfl rfl (by rfl) ?_; rw [hw3]; clear hw3) | fail)
  refine (hA2.out _).mono ?_
  rintro e w4 ⟨rfl, hb4⟩
  have hb4 := hb3.trans (hb4.mono hb3.size)
  go_wp2_with fail
  refine (hA1.out _).mono ?_
  rintro e w5 ⟨rfl, hb5⟩
  have hb5 := hb4.trans (hb5.mono hb4.size)
  go_wp2_with fail
  refine (hSZ.out _).mono ?_
  rintro e w6 ⟨rfl, hb6⟩
  have hb6 := hb5.trans (hb6.mono hb5.size)
  go_wp2_with fail
  go_ret
  exact ⟨rfl, hb6⟩
end Go.Proofs.Ytafegpedaidmmaa
