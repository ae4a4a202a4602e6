/-
  Frames as they are drawn, that came in as a row: what their cells are.
-/
import Derived.Test.YtkahndjflhgccaaMb
import Derived.Test.YtkahndjflhgccaaMm
import Derived.Test.YtkahndjflhgccaaLists
import Derived.Test.YtkahndjflhgccaaMi
import Derived.Test.YtkahndjflhgccaaMh
import Derived.Test.YtkahndjflhgccaaMf
import Derived.Test.YtkahndjflhgccaaFasks
namespace Go.Proofs.Ytkahndjflhgccaa
open Go.RowKit Go.ChangeShapes Go.WideShapes Go.Deep
set_option linter.unusedVariables false
set_option linter.unusedSimpArgs false
open Go.RowKit
section
variable {H : Type} {enc : TypeId × Value → H} {w : World}
end
theorem sameB_ask (m : FN) (ds : List Int) (rs : RS) : sameB (askN m) m (askDs m.k ds) ds (askRs m.k rs) rs = true ∧ sameB m (askN m) ds (askDs m.k ds) rs (askRs m.k rs) = true := by
  obtain ⟨k, s, o, fin, l, c, f, q, y, c0, c1, c2, c3, c4, c5, c6, c7⟩ := m
  rcases kind_cases k with rfl | rfl | rfl | rfl | rfl | rfl | rfl | rfl | rfl | rfl | rfl | rfl | rfl | rfl | rfl | rfl | rfl | hx
  all_goals first
    | (simp [sameB, askN, askDs, askRs, FN.zero, cidB]; done)
    | (simp only [beq_eq_false_iff_ne] at hx
       simp [sameB, askN, askDs, askRs, FN.zero, cidB, hx])
def pingF : FR := ⟨FN.zero 1, .nil, .nil, [], []⟩
theorem ping_right : rightB (FN.zero 1) [] [] = true := by decide
theorem ping_one : oneS (FN.zero 1) [] [] = [1] := by decide
theorem read_nil : readO ([], false) = none := by decide
theorem Fits.zero_ (w : World) (P : Nat → Prop) (k : Int) (h0 : -9223372036854775808 ≤ k) (h1 : k ≤ 9223372036854775807) : Fits w P (FN.zero k) .nil .nil [] [] := ⟨wf_zero k h0 h1, InD.nil_ _ _, InR.nil_ _ _⟩
theorem ping_text : strOfNums [1] = ⟨#[1]⟩ := rfl
theorem one_frs (w : World) (x : FR) (P : Nat → Prop) (g : Nat) (hA : At w g 31 (frL x.m x.d x.r)) (hP : P g) (hf : Fits w P x.m x.d x.r x.ds x.rs) : FrsP w P (some ⟨g, 0, none⟩) 1 [x] := by
  refine ⟨rfl, fun _ => ⟨g, 0, rfl, hA.lt, hP, fun i y hy => ?_⟩, fun y hy => by simp at hy; subst hy; exact hf⟩
  match i with
  | 0 => simp at hy; subst hy; exact hA.rangeAt
  | i + 1 => simp at hy
set_option maxRecDepth 100000 in
set_option maxHeartbeats 1000000 in
theorem fknown_any (w : World) : Calls Try.prog 14 #[] w (FrPost (.bool true) w) := by
  have hSZ := Lib.hid (fun W => fsize_any (fun _ => True) (FN.zero 1) .nil .nil [] [] W (Fits.zero_ _ _ 1 (by decide) (by decide)))
  have hs1 : sizeF (FN.zero 1) [] [] = 1 := by unfold sizeF; rw [if_pos ping_right, ping_one]; rfl
  rw [hs1] at hSZ
  have hA2 := Lib.hid (fun W => fasks_any (FN.zero 2) .nil .nil W)
  have hA1 := Lib.hid (fun W => fasks_any (FN.zero 1) .nil .nil W)
  rw [show asksB (FN.zero 2).k = false from by decide] at hA2
  rw [show asksB (FN.zero 1).k = true from by decide] at hA1
  have hC := At.new w 31 (frL (FN.zero 1) .nil .nil)
  have hE := encode_any (fun _ => True) (some ⟨w.heap.size, 0, none⟩) 1 1 [pingF] (w.alloc (.cells (frL (FN.zero 1) .nil .nil).toArray 31)) (one_frs _ pingF _ _ hC trivial (Fits.zero_ _ _ 1 (by decide) (by decide))) (by decide) (by decide)
  have HE := Lib.hid hE
  have hb0 : Below w.heap.size w (w.alloc (.cells (frL (FN.zero 1) .nil .nil).toArray 31)) := (Below.refl _ _).alloc (Nat.le_refl _) _
  clear hE hC hs1
  go_enter Try.func14, Try.ntmps14
  go_wp2_with (first | (refine wpList_bs1 (frL (FN.zero 1) .nil .nil) w.heap.size rfl (by rfl) rfl ?_) | fail)
  refine HE.out.mono ?_
  rintro e w1 ⟨h1, h2, hb1⟩
  obtain ⟨v, rfl, hown⟩ := h1 (by simp [pingF, FR.right, ping_right])
  have hen : encS [pingF] = [1] := by simp [encS, pingF, ping_one]
  rw [hen] at hown
  obtain ⟨A, c, rfl, hc1, hc2, hr⟩ := hown.open_n 1 rfl
  have hb1 := hb0.trans (hb1.mono hb0.size)
  clear h2 h1 HE hown hb0 hen
  go_wp2_with fail
  refine (decode_any none 0 0 [] w1 (Rd.none_ _ _ _) (by decide) (fun _ => rfl)).mono ?_
  intro e w2 hpost
  unfold DecPost at hpost
  rw [read_nil] at hpost
  obtain ⟨rfl, hb2⟩ := hpost
  have hb12 := hb1.trans (hb2.mono hb1.size)
  have hb3 := hb12.alloc hb12.size (.cells (frL (FN.zero 0) .nil .nil).toArray 31)
  have hr3 := (hr.below hb2).alloc hb2.size (.cells (frL (FN.zero 0) .nil .nil).toArray 31)
  obtain ⟨w3, hw3⟩ : ∃ x, w2.alloc (.cells (frL (FN.zero 0) .nil .nil).toArray 31) = x := ⟨_, rfl⟩
  rw [hw3] at hb3 hr3
  have ht := run_text (P := Try.prog) (c := c) hr3 26 5 9 Try.underlying26 Try.underlying5 Try.underlying9
  rw [ping_text] at ht
  clear hb12 hb2 hb1 hr
  go_wp2_with (first | ((with_reducible refine at_st (x := .tmp 3) ?_); refine st_top w2 (frL (FN.zero 0) .nil .nil) (frL (FN.zero 0) .nil .nil) (by rfl) _ (by rfl) (by rfl) (by rfl) rfl rfl (by rfl) ?_; rw [hw3]; clear hw3) | fail)
  refine (hA2.out _).mono ?_
  rintro e w4 ⟨rfl, hb4⟩
  have hb4 := hb3.trans (hb4.mono hb3.size)
  go_wp2_with fail
  refine (hA1.out _).mono ?_
  rintro e w5 ⟨rfl, hb5⟩
  have hb5 := hb4.trans (hb5.mono hb4.size)
  go_wp2_with fail
  refine (hSZ.out _).mono ?_
  rintro e w6 ⟨rfl, hb6⟩
  have hb6 := hb5.trans (hb6.mono hb5.size)
  go_wp2_with fail
  go_ret
  exact ⟨rfl, hb6⟩
end Go.Proofs.Ytkahndjflhgccaa
