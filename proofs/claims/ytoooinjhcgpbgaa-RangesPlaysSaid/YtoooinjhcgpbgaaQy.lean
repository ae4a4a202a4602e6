/-
  RangesPlays: sets are what the document says, for any calls.
-/
import Derived.Test.YtoooinjhcgpbgaaQw
import Derived.Test.YtoooinjhcgpbgaaQx
namespace Go.Proofs.Ytoooinjhcgpbgaa
set_option linter.unusedVariables false
set_option linter.unusedSimpArgs false
open Go.RowKit Go.ChangeShapes Go.WideShapes Go.Deep
theorem Asks.up {w : World} {B B' : Nat} {A : Option Addr} {n c : Nat} {L : List AskD} (h : Asks w B A n c L) (hb : B ≤ B') : Asks w B' A n c L :=
  ⟨h.1, h.2.1, h.2.2.1, h.2.2.2.1, fun hn => by
    obtain ⟨b, off, e, hlt, hc⟩ := h.2.2.2.2 hn
    exact ⟨b, off, e, Nat.lt_of_lt_of_le hlt hb, hc⟩⟩
set_option maxHeartbeats 4000000 in
set_option maxRecDepth 100000 in
theorem rplays_law (a0 : Int) (A1 : Option Addr) (n1 c1 : Nat) (L1 : List AskD) (a2 : Int) (w : World) (w0 : (Lit.int .i64 a0).wf = true) (w1 : Asks w w.heap.size A1 n1 c1 L1) (s1 : c1 * 24 ≤ 140737488351232) (w2 : (Lit.int .u64 a2).wf = true) :
    Calls Try.prog 4 #[.int .i64 a0, .slice A1 n1 c1, .int .u64 a2] w fun e w' => e = .returned (.bool true) ∧ Below w.heap.size w w' := by
  have b0 := bounds_i64 w0
  have hm : -9223372036854775808 ≤ a0 ∧ a0 < 9223372036854775808 := ⟨b0.1, by have := b0.2; omega⟩
  have hn : n1 * 24 ≤ 140737488351232 := by have := w1.2.1; omega
  have HA := Lib.hid w1
  have HWA := Lib.hid (within_any a0 20 (.inl rfl) w hm)
  clear w0 w1 w2 s1 b0
  go_enter Try.func4, Try.ntmps4
  go_wp2_with (first
    | (go_at_call 9; (with_reducible refine HWA.out.mono ?_); rintro e w3 ⟨⟨r, rfl, hr1, hr2⟩, rfl⟩; have HNA := Lib.hid (near_any 100 (.inl rfl) A1 n1 c1 L1 _ HA.out hn))
    | (go_at_call 10; (with_reducible refine HNA.out.mono ?_); rintro e w4 ⟨A4, n4, c4, L4, rfl, hA4, hB4⟩; have HPA := Lib.hid (fun t => play_any r ⟨hr1, hr2⟩ A4 n4 c4 L4 t w4 hA4); have HB4 := Lib.hid hB4; clear hA4 hB4)
    | (go_at_call 7; (with_reducible refine (HPA.out _).mono ?_); rintro e w5 ⟨p5, m5, rfl, hB5⟩; have hb5 := HB4.out.trans (hB5.mono HB4.out.size); have HB5 := Lib.hid hb5; have HWB := Lib.hid (within_any a0 6 (.inr rfl) w5 hm); clear hB5 hb5)
    | (go_at_call 9; (with_reducible refine HWB.out.mono ?_); rintro e w6 ⟨⟨r6, rfl, hr61, hr62⟩, rfl⟩; have HNB := Lib.hid (near_any 17 (.inr rfl) A1 n1 c1 L1 _ ((HA.out.below HB5.out).up HB5.out.size) hn))
    | (go_at_call 10; (with_reducible refine HNB.out.mono ?_); rintro e w7 ⟨A7, n7, c7, L7, rfl, hA7, hB7⟩; have HPB := Lib.hid (fun t => play_any r6 ⟨hr61, hr62⟩ A7 n7 c7 L7 t w7 hA7); have HB7 := Lib.hid (HB5.out.trans (hB7.mono HB5.out.size)); clear hA7 hB7)
    | (go_at_call 7; (with_reducible refine (HPB.out _).mono ?_); rintro e w8 ⟨p8, m8, rfl, hB8⟩; have hb8 := HB7.out.trans (hB8.mono HB7.out.size); have HB8 := Lib.hid hb8; have HPC := Lib.hid (play_any a0 hm A1 n1 c1 L1 a2 w8 ((HA.out.below hb8).up hb8.size)); clear hB8 hb8)
    | (go_at_call 7; (with_reducible refine HPC.out.mono ?_); rintro e w9 ⟨p9, m9, rfl, hB9⟩; have hb9 := HB8.out.trans (hB9.mono HB8.out.size); have HB9 := Lib.hid hb9; clear hB9 hb9)
    | (go_at_call 8; refine (known_any w9).mono ?_; rintro e w10 ⟨rfl, hB10⟩; have HB10 := Lib.hid (HB9.out.trans (hB10.mono HB9.out.size)); clear hB10))
  go_ret
  exact ⟨rfl, HB10.out⟩
end Go.Proofs.Ytoooinjhcgpbgaa
