/-
  Numbers written one behind the other, by the document's own answer (narthexref4.vars).
-/
import Derived.Test.YtbejpafephofaaaGreatMq23
namespace Go.Proofs.YtbejpafephofaaaGreat
set_option linter.unusedVariables false
set_option linter.unusedSimpArgs false
open Go.RowKit
def RowPost (base : Nat) (bs : List Int) (w : World) (e : Ending) (w' : World) : Prop := ∃ v, e = .returned v ∧ Own w' base 5 v bs ∧ Below w.heap.size w w'
/-- What the loop keeps. -/
def VsAt (w : World) (base m : Nat) (bs xs : List Int) (k : Nat) (v : Value) (wr : World) : Prop :=
  Below w.heap.size w wr ∧ ∃ A m' c', v = .slice A m' c' ∧ Rd wr wr.heap.size A m' (bs ++ putL (xs.take k)) ∧ m' ≤ m + 8 * k ∧ (1 ≤ k → Own wr base 5 v (bs ++ putL (xs.take k)))
set_option maxRecDepth 100000 in
set_option maxHeartbeats 1000000 in
theorem rvs_any (P : Nat → Prop) (A : Option Addr) (m c : Nat) (bs : List Int) (A' : Option Addr) (n c' : Nat) (xs : List Int) (w : World) (base : Nat) (hr : Rd w w.heap.size A m bs) (hm : m ≤ 100000000000) (hu : UsP w P A' n xs) (hn : n ≤ 100) (hn1 : 1 ≤ n) (hnc : n ≤ c') (hx : smL xs = true) (hbase : base ≤ w.heap.size) :
    Calls Tryz.prog 58 #[.slice A m c, .slice A' n c'] w (RowPost base (bs ++ putL xs) w) := by
  obtain ⟨hl, hb, hcell⟩ := hu
  obtain ⟨b, off, rfl, hbl, _, hc⟩ := hcell (by omega)
  have HL := Lib.hid hl
  have HC := Lib.hid hc
  have HX := Lib.hid hx
  have H0 : Hid (VsAt w base m bs xs 0 (.slice A m c) w) := Lib.hid ⟨Below.refl _ _, A, m, c, rfl, by simpa [putL] using hr, by omega, fun h => by omega⟩
  clear hl hc hcell hr hx
  go_enter Tryz.func58, Tryz.ntmps58
  go_wp2_with fail
  go_loopw [0, 5] (fun v i wr => ∃ k : Nat, k ≤ n ∧ i = .int .i64 k ∧ Hid (VsAt w base m bs xs k v wr)) (fun _ i _ => n - (intOf i).toNat)
  case atStart => exact ⟨0, Nat.zero_le _, rfl, H0⟩
  case round =>
    obtain ⟨k, hk, rfl, hst⟩ := hrel
    obtain ⟨wo, rfl⟩ : ∃ wo : World, wo = wr := ⟨_, rfl⟩
    obtain ⟨hB, A1, m1, c1, rfl, hR, hm1, hO⟩ := hst.out
    clear hst H0
    by_cases hlt : k < n
    · obtain ⟨x, hx⟩ : ∃ x, xs[k]? = some x := ⟨_, List.getElem?_eq_getElem (by rw [HL.out]; exact hlt)⟩
      have ck : wo.cell? ⟨b, off + k, none⟩ = some (.int .u64 x) := (hB.cell (p := ⟨b, _, none⟩) hbl).trans (HC.out k x hx)
      have hxm := List.mem_of_getElem? hx
      have hx0 := (hb x hxm).1
      have hx1 : x ≤ 4611686018427387903 := by
        have := HX.out
        unfold smL at this
        rw [List.all_eq_true] at this
        simpa using this x hxm
      have HT := Lib.hid (putL_take xs k x hx)
      have hs := putS_len x
      have hz := size_le x
      have hnI : (k : Int) < n := by omega
      have HR := Lib.hid hR
      clear hx hxm hO hR
      go_wp2_with fail
      refine (rput_any A1 m1 c1 _ x wo HR.out (by omega) hx0 hx1).mono ?_
      rintro e w2 ⟨v2, rfl, hO2, hB2⟩
      have hlen : (bs ++ putL (xs.take k) ++ putS x).length = m1 + (putS x).length := by rw [List.length_append, HR.out.1]
      have hB3 := hB.trans (hB2.mono hB.size)
      have hO3 := hO2.base_ (base' := base) (by have := hB.size; omega)
      have hF : Hid (VsAt w base m bs xs (k + 1) v2 w2) := Lib.hid (by
        obtain ⟨A2, c2, hv2, _, _, hR2⟩ := hO2.open_n _ hlen
        refine ⟨hB3, A2, _, c2, hv2, ?_, by omega, fun _ => ?_⟩
        · rw [HT.out, ← List.append_assoc]; exact hR2
        · rw [HT.out, ← List.append_assoc]; exact hO3)
      clear hO3 hB3 hO2 hB2 hlen HT
      go_wp2_with fail
      go_roundw
      case rel => exact ⟨k + 1, by omega, by go_num, hF⟩
      case measure => simp [intOf]; omega
    · obtain rfl : k = n := by omega
      have hO1 := hO (by omega)
      have hF : Hid (Own wo base 5 (.slice A1 m1 c1) (bs ++ putL xs)) := Lib.hid (by
        rw [List.take_of_length_le (by rw [HL.out]; exact Nat.le_refl _)] at hO1; exact hO1)
      clear hO hO1 hR
      go_wp2_with fail
      go_ret
      exact ⟨_, rfl, hF.out, hB⟩
end Go.Proofs.YtbejpafephofaaaGreat
