/-
  InbufPlays: its walk.
-/
import Derived.Test.YthgbnknahnaemaaIr
import Derived.Test.YthgbnknahnaemaaIs
namespace Go.Proofs.Ythgbnknahnaemaa
set_option linter.unusedVariables false
set_option linter.unusedSimpArgs false
open Go.RowKit
theorem tb_new (w0 w1 : World) (p : Nat) (h : ∃ O, Bf w1 w0.heap.size p O bs0) (hb : Below w0.heap.size w0 w1) :
    Tb w0.heap.size (w1.alloc (.cells #[.int .u64 0, .int .u64 0, .int .u64 0, .bool false, .slice none 0 0, .slice none 0 0] 33)) p w1.heap.size bs0 ∧ Below w0.heap.size w0 (w1.alloc (.cells #[.int .u64 0, .int .u64 0, .int .u64 0, .bool false, .slice none 0 0, .slice none 0 0] 33)) := by
  obtain ⟨O, h⟩ := h
  have k : Below w1.heap.size w1 (w1.alloc (.cells #[.int .u64 0, .int .u64 0, .int .u64 0, .bool false, .slice none 0 0, .slice none 0 0] 33)) := (Below.refl _ _).alloc (Nat.le_refl _) _
  refine ⟨⟨bs0_ok, ⟨O, _, h.below k, ⟨.slice none 0 0, .slice none 0 0, [], [], rfl, At.new w1 _ _, Own.none_ _ _ _, ow_nil _ _ _, (by intro h; cases h), (by intro h; cases h), (by intro k h; cases h), hb.size, rm0⟩, ?_⟩, Nat.le_trans hb.size k.size⟩, hb.trans (k.mono hb.size)⟩
  intro j hj e
  have := (h.lt j hj).2
  rcases e with e | e | e
  · omega
  · cases e
  · cases e
set_option maxHeartbeats 8000000 in
set_option maxRecDepth 100000 in
theorem iplays_law (A : Option Addr) (n c : Nat) (L : List AskD) (w : World) (hu : Asks w w.heap.size A n c L) :
    Calls Try.prog 4 #[.slice A n c] w fun e w' => e = .returned (.bool true) ∧ Below w.heap.size w w' := by
  have HU := Lib.hid hu
  have HUL := Lib.hid hu.1
  have hnc := hu.2.1
  have hcm := hu.2.2.1
  unfold maxLen at hcm
  clear hu
  have HN := Lib.hid (inew_any w)
  have HTB := Lib.hid (tb_new w)
  go_enter Try.func4, Try.ntmps4
  go_wp2_with (go_at_call 7; (with_reducible refine HN.out.mono ?_); rintro e w1 ⟨p, rfl, hO1, hb1⟩; have HT := Lib.hid (HTB.out w1 p hO1 hb1); clear hO1 hb1)
  obtain ⟨q, hq⟩ : ∃ q, w1.heap.size = q := ⟨_, rfl⟩
  rw [hq] at HT ⊢
  clear hq
  go_loopg [5] 60 (fun kx s5 wr => ∃ i : Nat, s5 = .int .i64 i ∧ i ≤ n ∧ i ≤ 60 ∧ 60 - i ≤ kx ∧ Hid (∃ S, Tb w.heap.size wr p q S ∧ Below w.heap.size w wr))
  case atStart => exact ⟨0, rfl, Nat.zero_le _, by omega, by omega, Lib.hid ⟨_, HT.out⟩⟩
  case round =>
    clear HT
    obtain ⟨i, rfl, hin, hi60, hkx, hT⟩ := hrel
    obtain ⟨S, hTb, hBl⟩ := hT.out
    by_cases hgo : i < n ∧ i < 60
    · obtain ⟨g1, g2⟩ := hgo
      obtain ⟨d, hx⟩ : ∃ d, L[i]? = some d := ⟨_, List.getElem?_eq_getElem (by rw [HUL.out]; exact g1)⟩
      obtain ⟨b, off, rfl, hb, hc⟩ := HU.out.2.2.2.2 (by omega)
      have ha := (hc i d hx).below hBl hb
      have HD := Lib.hid (do14_any w.heap.size p q S d wr hTb ha.wf ha.rd)
      have e0 := ha.c0
      have e1 := ha.c1
      have e2 := ha.c2
      have e3 := ha.c3
      have e4 := ha.c4
      have e5 := ha.c5
      have e6 := ha.c6
      have e7 := ha.c7
      obtain ⟨dk, doff, dsize, dmost, dfin, draw, dat, dA, dn, dc, dbs⟩ := d
      simp only [AskD.v] at HD e0 e1 e2 e3 e4 e5 e6 e7
      have HBL := Lib.hid hBl
      clear hc ha hx hTb hBl hT
      have hiz : (i : Int) < (n : Int) := by omega
      have hi6 : (i : Int) < 60 := by omega
      go_wp2_with (go_at_call 8; (with_reducible refine HD.out.mono ?_); rintro e w3 ⟨rfl, hT3, hb3⟩; have H3 : Hid (∃ S, Tb w.heap.size w3 p q S ∧ Below w.heap.size w w3) := Lib.hid ⟨hT3.choose, hT3.choose_spec, HBL.out.trans hb3⟩; clear hT3 hb3)
      go_roundg (60 - (i + 1))
      case measure => omega
      case rel => exact ⟨i + 1, by simp, by omega, by omega, by omega, H3⟩
    · have hend : ¬ (i : Int) < (n : Int) ∨ ((i : Int) < (n : Int) ∧ ¬ (i : Int) < 60) := by omega
      have HK := Lib.hid (known14_any wr)
      have HBL := Lib.hid hBl
      clear hTb hBl hT hgo
      rcases hend with h1 | ⟨h1, h2⟩
      · go_wp2_with (go_at_call 11; (with_reducible refine HK.out.mono ?_); rintro e w4 ⟨rfl, hb4⟩)
        go_ret
        exact ⟨rfl, HBL.out.trans (hb4.mono HBL.out.size)⟩
      · go_wp2_with (go_at_call 11; (with_reducible refine HK.out.mono ?_); rintro e w4 ⟨rfl, hb4⟩)
        go_ret
        exact ⟨rfl, HBL.out.trans (hb4.mono HBL.out.size)⟩
end Go.Proofs.Ythgbnknahnaemaa
