/-
  Rows of frames in memory; frame.Size, frame.Encode.
-/
import Derived.Test.YtphpdaldplkgmaaGreatWrite
import Derived.Test.YtphpdaldplkgmaaGreatMq3
import Derived.Test.YtphpdaldplkgmaaGreatMq4
namespace Go.Proofs.YtphpdaldplkgmaaGreat
section
set_option linter.unusedVariables false
set_option linter.unusedSimpArgs false
open Go.RowKit
/-- A frame's value and what it reads as. -/
structure FR where
  m : FN
  d : Sl
  r : Sl
  ds : List Int
  rs : RS
/-- The slice value with address A and n elements reads as the frames L, in blocks that P allows. -/
def FrsP (w : World) (P : Nat → Prop) (A : Option Addr) (n : Nat) (L : List FR) : Prop :=
  L.length = n ∧ (0 < n → ∃ b off, A = some ⟨b, off, none⟩ ∧ b < w.heap.size ∧ P b ∧ ∀ (i : Nat) (x : FR), L[i]? = some x → w.rangeAt b (off + i * 19) (frL x.m x.d x.r)) ∧ ∀ x ∈ L, Fits w P x.m x.d x.r x.ds x.rs
theorem rangeAt_kept {S : Nat → Prop} {w w' : World} {b o : Nat} {cs : List Value} (h : w.rangeAt b o cs) (k : Kept S w w') (hb : b < w.heap.size) (hs : ¬ S b) : w'.rangeAt b o cs := fun j v hv => (k.cell (p := ⟨b, _, none⟩) hb hs).trans (h j v hv)
theorem FrsP.kept {S P : Nat → Prop} {w w' : World} {A : Option Addr} {n : Nat} {L : List FR} (h : FrsP w P A n L) (k : Kept S w w') (hs : ∀ b, P b → ¬ S b) : FrsP w' P A n L := by
  refine ⟨h.1, fun hn => ?_, fun x hx => (h.2.2 x hx).kept k hs⟩
  obtain ⟨b, off, e, hb, hp, hc⟩ := h.2.1 hn
  exact ⟨b, off, e, Nat.lt_of_lt_of_le hb k.size, hp, fun i x hx => rangeAt_kept (hc i x hx) k hb (hs b hp)⟩
theorem FrsP.mono {P P' : Nat → Prop} {w : World} {A : Option Addr} {n : Nat} {L : List FR} (h : FrsP w P A n L) (hp : ∀ b, b < w.heap.size → P b → P' b) : FrsP w P' A n L := by
  refine ⟨h.1, fun hn => ?_, fun x hx => (h.2.2 x hx).mono hp⟩
  obtain ⟨b, off, e, hb, hp', hc⟩ := h.2.1 hn
  exact ⟨b, off, e, hb, hp b hb hp', hc⟩
theorem FrsP.below {P : Nat → Prop} {w w' : World} {A : Option Addr} {n : Nat} {L : List FR} (h : FrsP w P A n L) (k : Below w.heap.size w w') : FrsP w' P A n L := h.kept (Kept.of_below k (fun _ => False)) (fun _ _ h => h)
def sizeF (m : FN) (ds : List Int) (rs : RS) : Int := if rightB m ds rs = true then ((oneS m ds rs).length : Int) else 0
set_option maxRecDepth 100000 in
set_option maxHeartbeats 1000000 in
theorem fsize_any (P : Nat → Prop) (m : FN) (d r : Sl) (ds : List Int) (rs : RS) (w : World) (hf : Fits w P m d r ds rs) (hkk : m.k = 0 ∨ m.k = 5 ∨ m.k = 17) : Calls Tryz.prog 34 #[frV m d r] w (FrPost (.int .i64 (sizeF m ds rs)) w) := by
  have hB0 : Below w.heap.size w (w.alloc (.cells (frL m d r).toArray 54)) := (Below.refl _ _).alloc (Nat.le_refl _) _
  have hA0 : At (w.alloc (.cells (frL m d r).toArray 54)) w.heap.size 54 (frL m d r) := At.new w _ _
  have hrt := fun W (h : Fits W P m d r ds rs) => right_any P m d r ds rs W h hkk
  have hF0 := hf.below hB0
  have hwr := fun (base p : Nat) (T : TypeId) (v : Value) (W : World) a1 a2 a3 a4 a5 => write_any base p T v [] m d r ds rs W a1 a2 a3 a4 a5 hkk
  have hg : w.heap.size < (w.alloc (.cells (frL m d r).toArray 54)).heap.size := hA0.lt
  obtain ⟨L, hL⟩ : ∃ L, frL m d r = L := ⟨_, rfl⟩
  have hLl : L.length = 19 := by rw [← hL]; rfl
  have hfv : frV m d r = .agg L.toArray := by rw [← hL]; rfl
  rw [hL] at hA0 hB0 hF0 hg
  rw [hfv] at hrt hwr ⊢
  clear hL hfv
  have HLl := Lib.hid hLl
  have HRT := Lib.hid hrt
  have HWR := Lib.hid hwr
  clear hLl hrt hwr hkk
  obtain ⟨rb, hrb⟩ : ∃ x, rightB m ds rs = x := ⟨_, rfl⟩
  have HRB := Lib.hid hrb
  cases rb with
  | false =>
    have hz : sizeF m ds rs = 0 := by unfold sizeF; rw [hrb]; rfl
    have HZ := Lib.hid hz
    clear hrb hz
    go_enter Tryz.func34, Tryz.ntmps34
    go_wp2_with (first | ((with_reducible refine at_ld ?_); refine ld_fr_g _ _ (by rfl) (by rfl) hA0 HLl.out ?_) | fail)
    refine (HRT.out _ hF0).mono ?_
    rintro e w1 ⟨rfl, hb1⟩
    rw [HRB.out]
    go_wp2_with fail
    go_ret
    exact ⟨by rw [HZ.out]; rfl, hB0.trans (hb1.mono (by omega))⟩
  | true =>
    have hz : sizeF m ds rs = ([] ++ oneS m ds rs).length := by unfold sizeF; rw [hrb]; rfl
    have HZ := Lib.hid hz
    clear hrb hz
    go_enter Tryz.func34, Tryz.ntmps34
    go_wp2_with (first | ((with_reducible refine at_ld ?_); refine ld_fr_g _ _ (by rfl) (by rfl) hA0 HLl.out ?_) | fail)
    refine (HRT.out _ hF0).mono ?_
    rintro e w1 ⟨rfl, hb1⟩
    rw [HRB.out]
    have hA1 := hA0.below hb1 hg
    have hF1 := hF0.below hb1
    have hB1 := hB0.trans (hb1.mono (by omega))
    have hs1 := hb1.size
    clear hb1
    go_wp2_with fail
    refine (wnew_any w1).mono ?_
    rintro e w2 ⟨rfl, hW2, hs2, hb2⟩
    have hA2 := hA1.below hb2 hA1.lt
    have hF2 := (hF1.mono (P' := fun b => ¬ WS w1.heap.size (.slice none 0 0) b) (fun b hb _ hs => by rcases hs with hs | hs; omega; simp [Value.ownBlock] at hs)).below hb2
    have hB2 := hB1.trans (hb2.mono (by omega))
    clear hb2
    go_wp2_with (first | ((with_reducible refine at_ld ?_); refine ld_fr_g _ _ (by rfl) (by rfl) hA2 HLl.out ?_) | fail)
    refine (HWR.out w1.heap.size w1.heap.size _ _ _ hW2 (by simp) hF2 HRB.out (by omega)).mono ?_
    rintro e w3 ⟨v3, rfl, hW3, _, hk3⟩
    have hB3 := hk3.below hB2 (by omega) (fun j hj => by rcases hj with hj | hj; omega; simp [Value.ownBlock] at hj)
    go_wp2_with fail
    refine (wlen_any _ _ _ _ _ _ hW3).mono ?_
    rintro e w4 ⟨rfl, rfl⟩
    go_wp2_with fail
    go_ret
    exact ⟨by rw [HZ.out]; rfl, hB3⟩
section
variable {ops : Array Oper} {rest : List Oper} {a : Act} {w : World} {Q : Exit → Act → World → Prop} {dst : Option Tmp} {x y : Operand} {t : TypeId} {pos : String} {after : Array Edge} {g : Option (Nat × Bool)}
/-- A whole frame's load out of a row. -/
theorem ld_fr_o (b o : Nat) (l : List Value) (hg : Region.wanted ⟨dst, .load 54 x, t, pos, after, g⟩ (yielded ops a.tmps) = true) (hx : a.eval x = .pointer (some ⟨b, o, none⟩)) (hA : w.rangeAt b o l) (hl : l.length = 19)
    (h : wpList Tryz.prog ops Q rest (a.put dst (.agg l.toArray)) w) : wpList Tryz.prog ops Q (⟨dst, .load 54 x, t, pos, after, g⟩ :: rest) a w := by
  refine wpList_step fun K hK => ?_
  rw [if_pos hg]
  exact wp_load_mid _ _ rfl b o hx l _ hA Tryz.underlying54 rfl (by rw [hl]; exact fr_info) (hK _ _ h)
end
end
section
set_option linter.unusedVariables false
open Go.RowKit
end
section
set_option linter.unusedVariables false
open Go.RowKit
set_option maxRecDepth 100000 in
theorem Rdr.drewN {w : World} {p : Nat} {T : TypeId} {P : Nat → Prop} {s : St} (h : Rdr w p T P s) (n : Nat) : Rdr (w.drewN n) p T P s := h.kept ((Kept.refl (fun _ => False) w).drewN n) (fun h => h) (fun _ _ h => h)
end
section
set_option linter.unusedVariables false
open Go.RowKit
end
end Go.Proofs.YtphpdaldplkgmaaGreat
