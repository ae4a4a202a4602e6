/-
  Frames as bytes, by the document's own answer (narthexref4.Encode).
-/
import Derived.Test.YtkahndjflhgccaaFqq
import Derived.Test.YtkahndjflhgccaaMf
namespace Go.Proofs.Ytkahndjflhgccaa
set_option linter.unusedVariables false
set_option linter.unusedSimpArgs false
open Go.RowKit
structure REncAt (w : World) (L : List FR) (k : Nat) (A : Option Addr) (m c : Nat) (wr : World) : Prop where
  own : Own wr w.heap.size 5 (.slice A m c) (encS (L.take k))
  bl : Below w.heap.size w wr
set_option maxRecDepth 100000 in
set_option maxHeartbeats 2000000 in
theorem rencode_any (P : Nat → Prop) (A : Option Addr) (n c : Nat) (L : List FR) (w : World) (hf : FrsP w P A n L) (hn : n ≤ 1000) (hnc : n ≤ c) (hr : L.all FR.right = true) :
    Calls Try.prog 16 #[.slice A n c] w (RowPost w.heap.size (encS L) w) := by
  obtain ⟨i0, hi, hz0, hz1, hz2⟩ := info_parts u8_info
  have HF := Lib.hid (hf.mono (P' := fun b => b < w.heap.size) (fun b hb _ => hb))
  have HLN := Lib.hid hf.1
  have HR := Lib.hid hr
  clear hf hr
  have HI : Hid (REncAt w L 0 none 0 0 w) := Lib.hid ⟨by simpa [encS] using Own.none_ w w.heap.size 5, Below.refl _ _⟩
  go_enter Try.func16, Try.ntmps16
  go_wp2_with fail
  go_loopw [3, 4] (fun v i wr => ∃ (k : Nat) (A' : Option Addr) (m c' : Nat), k ≤ n ∧ v = .slice A' m c' ∧ i = .int .i64 k ∧ Hid (REncAt w L k A' m c' wr)) (fun _ i _ => n - (intOf i).toNat)
  case atStart => exact ⟨0, none, 0, 0, by omega, rfl, rfl, HI⟩
  case round =>
    obtain ⟨k, A', m, c', hk, rfl, rfl, hat⟩ := hrel
    have hszr := hat.out.bl.size
    by_cases hlt : k < n
    · have hF := HF.out.below hat.out.bl
      obtain ⟨b, off, rfl, hb, hP, hc⟩ := hF.2.1 (by omega)
      obtain ⟨x, hx⟩ : ∃ x, L[k]? = some x := ⟨_, List.getElem?_eq_getElem (by rw [HLN.out]; exact hlt)⟩
      have hra := hc k x hx
      have hfx := hF.2.2 x (List.mem_of_getElem? hx)
      have hxr : rightB x.m x.ds x.rs = true := List.all_eq_true.1 HR.out x (List.mem_of_getElem? hx)
      have hcall := rone_any _ x.m x.d x.r x.ds x.rs wr hfx hxr
      have hob := one_bound x.m x.ds x.rs hxr
      have hel := encS_len (L.take k) (List.all_eq_true.2 fun y hy => List.all_eq_true.1 HR.out y (List.mem_of_mem_take hy))
      have htl := List.length_take_le k L
      have hET := encS_take L k x hx
      obtain ⟨fl, hfl⟩ : ∃ fl, frL x.m x.d x.r = fl := ⟨_, rfl⟩
      have hLl : fl.length = 19 := by rw [← hfl]; rfl
      have hfv : frV x.m x.d x.r = .agg fl.toArray := by rw [← hfl]; rfl
      rw [hfl] at hra
      rw [hfv] at hcall
      obtain ⟨one, hone⟩ : ∃ y, oneS x.m x.ds x.rs = y := ⟨_, rfl⟩
      rw [hone] at hcall hob hET
      obtain ⟨e0, he0⟩ : ∃ y, encS (L.take k) = y := ⟨_, rfl⟩
      have hO0 := hat.out.own
      rw [he0] at hET hel hO0
      have hB0 := hat.out.bl
      have HET := Lib.hid hET
      clear hfl hfv hone he0 hat hx hfx hxr hET hF hc
      go_wp2_with (first | ((with_reducible refine at_ld ?_); refine ld_fr_o _ _ _ (by rfl) (by rfl) hra hLl ?_) | fail)
      refine hcall.mono ?_
      rintro e w1 ⟨A1, n1, c1, rfl, hn1, hO1, hR1, hB1⟩
      have hO2 := hO0.below hB1 (Nat.le_refl _)
      have hB2 := hB0.trans (hB1.mono hB0.size)
      have hlen : e0.length + n1 ≤ 140737488355328 := by rw [← hn1]; omega
      have hs2 := hB2.size
      clear hO0 hO1 hB1 hB0 hcall hra
      go_wp2_with (at_builtin; refine wpList_append_rd rfl (.tmp 11) (.tmp 16) 26 rfl w.heap.size 5 i0 Try.underlying26 hi hz0 hz1 hz2 _ e0 rfl hO2 _ A1 n1 c1 one rfl hR1 hlen w hB2 hs2 ?_; intro v3 w3 hO3 hB3 hgr3)
      obtain ⟨A3, n3, c3, rfl⟩ := hO3.shape
      have hI3 : Hid (REncAt w L (k + 1) A3 n3 c3 w3) := Lib.hid ⟨by rw [HET.out]; exact hO3, hB3⟩
      clear hO3 hB3 hgr3 hO2 hB2 hR1
      go_wp2_with fail
      go_roundw
      case rel => exact ⟨k + 1, A3, n3, c3, by omega, rfl, by go_num, hI3⟩
      case measure => simp [intOf] <;> omega
    · obtain rfl : k = n := by omega
      have hF : Hid (Own wr w.heap.size 5 (.slice A' m c') (encS L)) := Lib.hid (by
        have := hat.out.own
        rw [List.take_of_length_le (by rw [HLN.out]; exact Nat.le_refl _)] at this; exact this)
      have hB := hat.out.bl
      clear hat
      go_wp2_with fail
      go_ret
      exact ⟨_, rfl, hF.out, hB⟩
end Go.Proofs.Ytkahndjflhgccaa
