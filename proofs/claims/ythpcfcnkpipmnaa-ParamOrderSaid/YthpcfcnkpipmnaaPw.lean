/-
  param.writeNumber, param.Encode: the bytes that params are written as.
-/
import Derived.Test.YthpcfcnkpipmnaaPm
import Derived.Test.YthpcfcnkpipmnaaWst
import Derived.Test.YthpcfcnkpipmnaaReg
namespace Go.Proofs.Ythpcfcnkpipmnaa
set_option linter.unusedVariables false
set_option linter.unusedSimpArgs false
open Go.RowKit Go.ChangeShapes Go.WideShapes Go.Deep
/-- A number behind its name; nothing of 0. -/
def numB (id n : Int) : List Int := if n = 0 then [] else putS id ++ textB (putS n)
def pencS (p : PN) : List Int := numB 1 p.i ++ numB 4 p.d ++ numB 5 p.s ++ numB 8 p.m ++ (putS 0 ++ textB p.c.l)
theorem numB_le (id n : Int) : (numB id n).length ≤ 24 := by
  unfold numB
  split
  · simp
  · have := putS_le id; have := putS_le n; have := textB_le (putS n); rw [List.length_append]; omega
theorem WPost.go {r : Value} {w : World} {base p : Nat} {T : TypeId} {v : Value} {bs0 bs : List Int} {e : Ending} {w' : World} (h0 : Wtr w base p T v bs0) (h : WPost r w base p T v bs e w') :
    ∃ v', e = .returned r ∧ Wtr w' base p T v' bs ∧ Kept (fun j => base ≤ j) w w' := by
  obtain ⟨v', e1, e2, _, e4⟩ := h
  refine ⟨v', e1, e2, e4.mono fun j hj => ?_⟩
  rcases hj with rfl | hj
  · exact .inl h0.2.1
  · exact .inl (h0.2.2.1.block_lt j hj).1
set_option maxRecDepth 100000 in
set_option maxHeartbeats 1000000 in
theorem wnum_any (base p : Nat) (T : TypeId) (v : Value) (bs : List Int) (id n : Int) (w : World) (h : Wtr w base p T v bs) (hl : bs.length ≤ 1000000) (hi0 : 0 ≤ id) (hi1 : id ≤ 4611686018427387903) (h0 : 0 ≤ n) (h1 : n ≤ 4611686018427387903) (hbase : base ≤ w.heap.size) :
    Calls Try.prog 25 #[.pointer (some ⟨p, 0, none⟩), .int .u64 id, .int .u64 n] w (WPost (.tuple #[]) w base p T v (bs ++ numB id n)) := by
  have hpl : p < w.heap.size := h.1.lt
  by_cases hz : n = 0
  · have HE := Lib.hid (show bs ++ numB id n = bs by unfold numB; rw [if_pos hz, List.append_nil])
    have HW := Lib.hid h; clear h
    subst hz
    go_enter Try.func25, Try.ntmps25
    go_wp2
    go_end0
    rw [HE.out]
    exact (WSt.refl HW.out).post _
  · have hnz : (n == 0) = false := by simp; omega
    have HE := Lib.hid (show bs ++ numB id n = bs ++ putS id ++ textB (putS n) by unfold numB; rw [if_neg hz, List.append_assoc])
    have L1 := putS_le id
    have L2 := putS_le n
    go_enter Try.func25, Try.ntmps25
    go_wp2_with fail
    refine (new_any w).mono ?_
    rintro e w1 ⟨rfl, hW1, hs1, hb1⟩
    go_wp2_with fail
    refine (wvar_yes w.heap.size w.heap.size _ _ [] n w1 hW1 (by simp) h0 h1 (by omega)).mono ?_
    intro e w2 hp2
    obtain ⟨v2, rfl, hW2, hk2⟩ := hp2.go hW1
    rw [List.nil_append] at hW2
    have hb2 : Below w.heap.size w w2 := hk2.below hb1 (by omega) (fun j hj => hj)
    have hs2 := hk2.size
    have hT2 := (WSt.refl h).below hb2
    clear hW1 hp2 hk2 hb1
    go_wp2_with fail
    refine (wvar_yes base p T v bs id w2 hT2.1 (by omega) hi0 hi1 (by omega)).mono ?_
    intro e w3 hp3
    have hk23 := hp3.choose_spec.2.2.2
    obtain ⟨v3, rfl, hT3⟩ := hT2.step hp3
    have hW3 := hW2.kept hk23 (h.not_new (Nat.le_refl _)) (fun j hj => h.not_new (hW2.2.2.1.block_lt j hj).1)
    have hs3 := hk23.size
    clear hT2 hp3 hk23 hW2
    go_wp2_with fail
    refine (wdone_any _ _ _ _ _ _ hW3 (by omega)).mono ?_
    rintro e w4 ⟨v4, rfl, hown, hb4⟩
    obtain ⟨A, c, rfl, hc0, hc1, hrd⟩ := hown.open_
    have hbl := hown.block_lt
    have hT4 := hT3.below hb4
    have hs4 := hb4.size
    have hnn : ∀ b off, 0 < (putS n).length → A = some ⟨b, off, none⟩ → ¬ WS p v3 b := fun b off _ hA => hT3.1.not_new (hbl b (by rw [hA]; rfl)).1
    clear hW3 hown hb4 hT3 hbl
    go_wp2_with fail
    refine (wtext_any base p T v3 _ A _ c _ w4 hT4.1 (by rw [List.length_append]; omega) (by omega) hrd hnn (by omega)).mono ?_
    intro e w5 hp5
    obtain ⟨v5, rfl, hT5⟩ := hT4.step hp5
    go_wp2_with fail
    go_end0
    rw [HE.out]
    exact hT5.post _
end Go.Proofs.Ythpcfcnkpipmnaa
