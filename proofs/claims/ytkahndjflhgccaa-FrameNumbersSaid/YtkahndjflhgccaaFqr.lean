/-
  What may be of a frame, by the document's own answer (narthexref4.Right): as frame.Right says, for every frame but an Ack.
-/
import Derived.Test.YtkahndjflhgccaaFqa
namespace Go.Proofs.Ytkahndjflhgccaa
set_option linter.unusedVariables false
set_option linter.unusedSimpArgs false
open Go.RowKit
set_option maxRecDepth 100000 in
set_option maxHeartbeats 1000000 in
theorem rright_0 (s o l c f q y c0 c1 c2 c3 c4 c5 c6 c7 : Int) (fin : Bool) (dA : Option Addr) (dn dc : Nat) (rA : Option Addr) (rn rc : Nat) (w : World) (dn_ : dn ≤ dc) (dcm : dc ≤ 9223372036854775807) (s0 : 0 ≤ s) (o0 : 0 ≤ o) (l0 : 0 ≤ l) (c_0 : 0 ≤ c) (f0 : 0 ≤ f) (q0 : 0 ≤ q) (y0 : 0 ≤ y) (s1 : s < 18446744073709551616) (o1 : o < 18446744073709551616) (l1 : l < 18446744073709551616) (c_1 : c < 18446744073709551616) (f1 : f < 18446744073709551616) (q1 : q < 18446744073709551616) (y1 : y < 18446744073709551616) :
    Calls Try.prog 11 #[frV ⟨0, s, o, fin, l, c, f, q, y, c0, c1, c2, c3, c4, c5, c6, c7⟩ ⟨dA, dn, dc⟩ ⟨rA, rn, rc⟩] w (FrPost (.bool (true)) w) := by
  simp only [frV, frL]
  have hb : Below w.heap.size w (w.alloc (.cells #[.int .i64 0, .int .u64 s, .int .u64 o, .slice dA dn dc, .bool fin, .int .u64 l, .int .u64 c, .int .u64 f, .int .u64 q, .int .u64 y, .slice rA rn rc,
      .int .u8 c0, .int .u8 c1, .int .u8 c2, .int .u8 c3, .int .u8 c4, .int .u8 c5, .int .u8 c6, .int .u8 c7] 31)) := (Below.refl _ _).alloc (Nat.le_refl _) _
  have hs : (w.alloc (.cells #[.int .i64 0, .int .u64 s, .int .u64 o, .slice dA dn dc, .bool fin, .int .u64 l, .int .u64 c, .int .u64 f, .int .u64 q, .int .u64 y, .slice rA rn rc,
      .int .u8 c0, .int .u8 c1, .int .u8 c2, .int .u8 c3, .int .u8 c4, .int .u8 c5, .int .u8 c6, .int .u8 c7] 31)).heap.size = w.heap.size + 1 := by simp
  have HB := Lib.hid hb; clear hb hs
  go_enter Try.func11, Try.ntmps11
  go_wp2_with fail
  all_goals
    go_ret
    refine ⟨?_, HB.out⟩
    first | rfl | (simp; first | done | omega)
set_option maxRecDepth 100000 in
set_option maxHeartbeats 1000000 in
theorem rright_1 (s o l c f q y c0 c1 c2 c3 c4 c5 c6 c7 : Int) (fin : Bool) (dA : Option Addr) (dn dc : Nat) (rA : Option Addr) (rn rc : Nat) (w : World) (dn_ : dn ≤ dc) (dcm : dc ≤ 9223372036854775807) (s0 : 0 ≤ s) (o0 : 0 ≤ o) (l0 : 0 ≤ l) (c_0 : 0 ≤ c) (f0 : 0 ≤ f) (q0 : 0 ≤ q) (y0 : 0 ≤ y) (s1 : s < 18446744073709551616) (o1 : o < 18446744073709551616) (l1 : l < 18446744073709551616) (c_1 : c < 18446744073709551616) (f1 : f < 18446744073709551616) (q1 : q < 18446744073709551616) (y1 : y < 18446744073709551616) :
    Calls Try.prog 11 #[frV ⟨1, s, o, fin, l, c, f, q, y, c0, c1, c2, c3, c4, c5, c6, c7⟩ ⟨dA, dn, dc⟩ ⟨rA, rn, rc⟩] w (FrPost (.bool (true)) w) := by
  simp only [frV, frL]
  have hb : Below w.heap.size w (w.alloc (.cells #[.int .i64 1, .int .u64 s, .int .u64 o, .slice dA dn dc, .bool fin, .int .u64 l, .int .u64 c, .int .u64 f, .int .u64 q, .int .u64 y, .slice rA rn rc,
      .int .u8 c0, .int .u8 c1, .int .u8 c2, .int .u8 c3, .int .u8 c4, .int .u8 c5, .int .u8 c6, .int .u8 c7] 31)) := (Below.refl _ _).alloc (Nat.le_refl _) _
  have hs : (w.alloc (.cells #[.int .i64 1, .int .u64 s, .int .u64 o, .slice dA dn dc, .bool fin, .int .u64 l, .int .u64 c, .int .u64 f, .int .u64 q, .int .u64 y, .slice rA rn rc,
      .int .u8 c0, .int .u8 c1, .int .u8 c2, .int .u8 c3, .int .u8 c4, .int .u8 c5, .int .u8 c6, .int .u8 c7] 31)).heap.size = w.heap.size + 1 := by simp
  have HB := Lib.hid hb; clear hb hs
  go_enter Try.func11, Try.ntmps11
  go_wp2_with fail
  all_goals
    go_ret
    refine ⟨?_, HB.out⟩
    first | rfl | (simp; first | done | omega)
set_option maxRecDepth 100000 in
set_option maxHeartbeats 1000000 in
theorem rright_30 (s o l c f q y c0 c1 c2 c3 c4 c5 c6 c7 : Int) (fin : Bool) (dA : Option Addr) (dn dc : Nat) (rA : Option Addr) (rn rc : Nat) (w : World) (dn_ : dn ≤ dc) (dcm : dc ≤ 9223372036854775807) (s0 : 0 ≤ s) (o0 : 0 ≤ o) (l0 : 0 ≤ l) (c_0 : 0 ≤ c) (f0 : 0 ≤ f) (q0 : 0 ≤ q) (y0 : 0 ≤ y) (s1 : s < 18446744073709551616) (o1 : o < 18446744073709551616) (l1 : l < 18446744073709551616) (c_1 : c < 18446744073709551616) (f1 : f < 18446744073709551616) (q1 : q < 18446744073709551616) (y1 : y < 18446744073709551616) :
    Calls Try.prog 11 #[frV ⟨30, s, o, fin, l, c, f, q, y, c0, c1, c2, c3, c4, c5, c6, c7⟩ ⟨dA, dn, dc⟩ ⟨rA, rn, rc⟩] w (FrPost (.bool (true)) w) := by
  simp only [frV, frL]
  have hb : Below w.heap.size w (w.alloc (.cells #[.int .i64 30, .int .u64 s, .int .u64 o, .slice dA dn dc, .bool fin, .int .u64 l, .int .u64 c, .int .u64 f, .int .u64 q, .int .u64 y, .slice rA rn rc,
      .int .u8 c0, .int .u8 c1, .int .u8 c2, .int .u8 c3, .int .u8 c4, .int .u8 c5, .int .u8 c6, .int .u8 c7] 31)) := (Below.refl _ _).alloc (Nat.le_refl _) _
  have hs : (w.alloc (.cells #[.int .i64 30, .int .u64 s, .int .u64 o, .slice dA dn dc, .bool fin, .int .u64 l, .int .u64 c, .int .u64 f, .int .u64 q, .int .u64 y, .slice rA rn rc,
      .int .u8 c0, .int .u8 c1, .int .u8 c2, .int .u8 c3, .int .u8 c4, .int .u8 c5, .int .u8 c6, .int .u8 c7] 31)).heap.size = w.heap.size + 1 := by simp
  have HB := Lib.hid hb; clear hb hs
  go_enter Try.func11, Try.ntmps11
  go_wp2_with fail
  all_goals
    go_ret
    refine ⟨?_, HB.out⟩
    first | rfl | (simp; first | done | omega)
set_option maxRecDepth 100000 in
set_option maxHeartbeats 1000000 in
theorem rright_26 (s o l c f q y c0 c1 c2 c3 c4 c5 c6 c7 : Int) (fin : Bool) (dA : Option Addr) (dn dc : Nat) (rA : Option Addr) (rn rc : Nat) (w : World) (dn_ : dn ≤ dc) (dcm : dc ≤ 9223372036854775807) (s0 : 0 ≤ s) (o0 : 0 ≤ o) (l0 : 0 ≤ l) (c_0 : 0 ≤ c) (f0 : 0 ≤ f) (q0 : 0 ≤ q) (y0 : 0 ≤ y) (s1 : s < 18446744073709551616) (o1 : o < 18446744073709551616) (l1 : l < 18446744073709551616) (c_1 : c < 18446744073709551616) (f1 : f < 18446744073709551616) (q1 : q < 18446744073709551616) (y1 : y < 18446744073709551616) :
    Calls Try.prog 11 #[frV ⟨26, s, o, fin, l, c, f, q, y, c0, c1, c2, c3, c4, c5, c6, c7⟩ ⟨dA, dn, dc⟩ ⟨rA, rn, rc⟩] w (FrPost (.bool (true)) w) := by
  simp only [frV, frL]
  have hb : Below w.heap.size w (w.alloc (.cells #[.int .i64 26, .int .u64 s, .int .u64 o, .slice dA dn dc, .bool fin, .int .u64 l, .int .u64 c, .int .u64 f, .int .u64 q, .int .u64 y, .slice rA rn rc,
      .int .u8 c0, .int .u8 c1, .int .u8 c2, .int .u8 c3, .int .u8 c4, .int .u8 c5, .int .u8 c6, .int .u8 c7] 31)) := (Below.refl _ _).alloc (Nat.le_refl _) _
  have hs : (w.alloc (.cells #[.int .i64 26, .int .u64 s, .int .u64 o, .slice dA dn dc, .bool fin, .int .u64 l, .int .u64 c, .int .u64 f, .int .u64 q, .int .u64 y, .slice rA rn rc,
      .int .u8 c0, .int .u8 c1, .int .u8 c2, .int .u8 c3, .int .u8 c4, .int .u8 c5, .int .u8 c6, .int .u8 c7] 31)).heap.size = w.heap.size + 1 := by simp
  have HB := Lib.hid hb; clear hb hs
  go_enter Try.func11, Try.ntmps11
  go_wp2_with fail
  all_goals
    go_ret
    refine ⟨?_, HB.out⟩
    first | rfl | (simp; first | done | omega)
set_option maxRecDepth 100000 in
set_option maxHeartbeats 1000000 in
theorem rright_27 (s o l c f q y c0 c1 c2 c3 c4 c5 c6 c7 : Int) (fin : Bool) (dA : Option Addr) (dn dc : Nat) (rA : Option Addr) (rn rc : Nat) (w : World) (dn_ : dn ≤ dc) (dcm : dc ≤ 9223372036854775807) (s0 : 0 ≤ s) (o0 : 0 ≤ o) (l0 : 0 ≤ l) (c_0 : 0 ≤ c) (f0 : 0 ≤ f) (q0 : 0 ≤ q) (y0 : 0 ≤ y) (s1 : s < 18446744073709551616) (o1 : o < 18446744073709551616) (l1 : l < 18446744073709551616) (c_1 : c < 18446744073709551616) (f1 : f < 18446744073709551616) (q1 : q < 18446744073709551616) (y1 : y < 18446744073709551616) :
    Calls Try.prog 11 #[frV ⟨27, s, o, fin, l, c, f, q, y, c0, c1, c2, c3, c4, c5, c6, c7⟩ ⟨dA, dn, dc⟩ ⟨rA, rn, rc⟩] w (FrPost (.bool (true)) w) := by
  simp only [frV, frL]
  have hb : Below w.heap.size w (w.alloc (.cells #[.int .i64 27, .int .u64 s, .int .u64 o, .slice dA dn dc, .bool fin, .int .u64 l, .int .u64 c, .int .u64 f, .int .u64 q, .int .u64 y, .slice rA rn rc,
      .int .u8 c0, .int .u8 c1, .int .u8 c2, .int .u8 c3, .int .u8 c4, .int .u8 c5, .int .u8 c6, .int .u8 c7] 31)) := (Below.refl _ _).alloc (Nat.le_refl _) _
  have hs : (w.alloc (.cells #[.int .i64 27, .int .u64 s, .int .u64 o, .slice dA dn dc, .bool fin, .int .u64 l, .int .u64 c, .int .u64 f, .int .u64 q, .int .u64 y, .slice rA rn rc,
      .int .u8 c0, .int .u8 c1, .int .u8 c2, .int .u8 c3, .int .u8 c4, .int .u8 c5, .int .u8 c6, .int .u8 c7] 31)).heap.size = w.heap.size + 1 := by simp
  have HB := Lib.hid hb; clear hb hs
  go_enter Try.func11, Try.ntmps11
  go_wp2_with fail
  all_goals
    go_ret
    refine ⟨?_, HB.out⟩
    first | rfl | (simp; first | done | omega)
set_option maxRecDepth 100000 in
set_option maxHeartbeats 1000000 in
theorem rright_4 (s o l c f q y c0 c1 c2 c3 c4 c5 c6 c7 : Int) (fin : Bool) (dA : Option Addr) (dn dc : Nat) (rA : Option Addr) (rn rc : Nat) (w : World) (dn_ : dn ≤ dc) (dcm : dc ≤ 9223372036854775807) (s0 : 0 ≤ s) (o0 : 0 ≤ o) (l0 : 0 ≤ l) (c_0 : 0 ≤ c) (f0 : 0 ≤ f) (q0 : 0 ≤ q) (y0 : 0 ≤ y) (s1 : s < 18446744073709551616) (o1 : o < 18446744073709551616) (l1 : l < 18446744073709551616) (c_1 : c < 18446744073709551616) (f1 : f < 18446744073709551616) (q1 : q < 18446744073709551616) (y1 : y < 18446744073709551616) :
    Calls Try.prog 11 #[frV ⟨4, s, o, fin, l, c, f, q, y, c0, c1, c2, c3, c4, c5, c6, c7⟩ ⟨dA, dn, dc⟩ ⟨rA, rn, rc⟩] w (FrPost (.bool (smL [s, c] && (decide (f ≤ 1099511627776)))) w) := by
  simp only [frV, frL]
  have hb : Below w.heap.size w (w.alloc (.cells #[.int .i64 4, .int .u64 s, .int .u64 o, .slice dA dn dc, .bool fin, .int .u64 l, .int .u64 c, .int .u64 f, .int .u64 q, .int .u64 y, .slice rA rn rc,
      .int .u8 c0, .int .u8 c1, .int .u8 c2, .int .u8 c3, .int .u8 c4, .int .u8 c5, .int .u8 c6, .int .u8 c7] 31)) := (Below.refl _ _).alloc (Nat.le_refl _) _
  have hs : (w.alloc (.cells #[.int .i64 4, .int .u64 s, .int .u64 o, .slice dA dn dc, .bool fin, .int .u64 l, .int .u64 c, .int .u64 f, .int .u64 q, .int .u64 y, .slice rA rn rc,
      .int .u8 c0, .int .u8 c1, .int .u8 c2, .int .u8 c3, .int .u8 c4, .int .u8 c5, .int .u8 c6, .int .u8 c7] 31)).heap.size = w.heap.size + 1 := by simp
  have hu := UsP.new (w.alloc (.cells #[.int .i64 4, .int .u64 s, .int .u64 o, .slice dA dn dc, .bool fin, .int .u64 l, .int .u64 c, .int .u64 f, .int .u64 q, .int .u64 y, .slice rA rn rc,
      .int .u8 c0, .int .u8 c1, .int .u8 c2, .int .u8 c3, .int .u8 c4, .int .u8 c5, .int .u8 c6, .int .u8 c7] 31)) (fun _ => True) 25 [s, c] (by intro x hx; simp at hx; omega) #[.int .u64 s, .int .u64 c] rfl (w.heap.size + 1) (by simp) trivial
  have hs := small_l_any _ _ 2 2 [s, c] _ hu (by decide) (by decide)
  have hb2 := hb.alloc (by simp) (.cells #[.int .u64 s, .int .u64 c] 25)
  obtain ⟨b, hbb⟩ : ∃ b, smL [s, c] = b := ⟨_, rfl⟩
  rw [hbb] at hs ⊢
  have HS := Lib.hid hs
  have HB := Lib.hid hb2; clear hb hs hb2 hu hbb
  cases b with
  | false =>
    go_enter Try.func11, Try.ntmps11
    go_wp2_with fail
    refine (HS.out).mono ?_
    rintro e w' ⟨rfl, rfl⟩
    go_wp2_with fail
    all_goals
      go_ret
      refine ⟨?_, HB.out⟩
      first | rfl | (simp; first | done | omega)
  | true =>
    go_enter Try.func11, Try.ntmps11
    go_wp2_with fail
    refine (HS.out).mono ?_
    rintro e w' ⟨rfl, rfl⟩
    go_wp2_with fail
    all_goals
      go_ret
      refine ⟨?_, HB.out⟩
      first | rfl | (simp; first | done | omega)
set_option maxRecDepth 100000 in
set_option maxHeartbeats 1000000 in
theorem rright_5 (s o l c f q y c0 c1 c2 c3 c4 c5 c6 c7 : Int) (fin : Bool) (dA : Option Addr) (dn dc : Nat) (rA : Option Addr) (rn rc : Nat) (w : World) (dn_ : dn ≤ dc) (dcm : dc ≤ 9223372036854775807) (s0 : 0 ≤ s) (o0 : 0 ≤ o) (l0 : 0 ≤ l) (c_0 : 0 ≤ c) (f0 : 0 ≤ f) (q0 : 0 ≤ q) (y0 : 0 ≤ y) (s1 : s < 18446744073709551616) (o1 : o < 18446744073709551616) (l1 : l < 18446744073709551616) (c_1 : c < 18446744073709551616) (f1 : f < 18446744073709551616) (q1 : q < 18446744073709551616) (y1 : y < 18446744073709551616) :
    Calls Try.prog 11 #[frV ⟨5, s, o, fin, l, c, f, q, y, c0, c1, c2, c3, c4, c5, c6, c7⟩ ⟨dA, dn, dc⟩ ⟨rA, rn, rc⟩] w (FrPost (.bool (smL [s, c])) w) := by
  simp only [frV, frL]
  have hb : Below w.heap.size w (w.alloc (.cells #[.int .i64 5, .int .u64 s, .int .u64 o, .slice dA dn dc, .bool fin, .int .u64 l, .int .u64 c, .int .u64 f, .int .u64 q, .int .u64 y, .slice rA rn rc,
      .int .u8 c0, .int .u8 c1, .int .u8 c2, .int .u8 c3, .int .u8 c4, .int .u8 c5, .int .u8 c6, .int .u8 c7] 31)) := (Below.refl _ _).alloc (Nat.le_refl _) _
  have hs : (w.alloc (.cells #[.int .i64 5, .int .u64 s, .int .u64 o, .slice dA dn dc, .bool fin, .int .u64 l, .int .u64 c, .int .u64 f, .int .u64 q, .int .u64 y, .slice rA rn rc,
      .int .u8 c0, .int .u8 c1, .int .u8 c2, .int .u8 c3, .int .u8 c4, .int .u8 c5, .int .u8 c6, .int .u8 c7] 31)).heap.size = w.heap.size + 1 := by simp
  have hu := UsP.new (w.alloc (.cells #[.int .i64 5, .int .u64 s, .int .u64 o, .slice dA dn dc, .bool fin, .int .u64 l, .int .u64 c, .int .u64 f, .int .u64 q, .int .u64 y, .slice rA rn rc,
      .int .u8 c0, .int .u8 c1, .int .u8 c2, .int .u8 c3, .int .u8 c4, .int .u8 c5, .int .u8 c6, .int .u8 c7] 31)) (fun _ => True) 25 [s, c] (by intro x hx; simp at hx; omega) #[.int .u64 s, .int .u64 c] rfl (w.heap.size + 1) (by simp) trivial
  have hs := small_l_any _ _ 2 2 [s, c] _ hu (by decide) (by decide)
  have hb2 := hb.alloc (by simp) (.cells #[.int .u64 s, .int .u64 c] 25)
  obtain ⟨b, hbb⟩ : ∃ b, smL [s, c] = b := ⟨_, rfl⟩
  rw [hbb] at hs ⊢
  have HS := Lib.hid hs
  have HB := Lib.hid hb2; clear hb hs hb2 hu hbb
  cases b with
  | false =>
    go_enter Try.func11, Try.ntmps11
    go_wp2_with fail
    refine (HS.out).mono ?_
    rintro e w' ⟨rfl, rfl⟩
    go_wp2_with fail
    all_goals
      go_ret
      refine ⟨?_, HB.out⟩
      first | rfl | (simp; first | done | omega)
  | true =>
    go_enter Try.func11, Try.ntmps11
    go_wp2_with fail
    refine (HS.out).mono ?_
    rintro e w' ⟨rfl, rfl⟩
    go_wp2_with fail
    all_goals
      go_ret
      refine ⟨?_, HB.out⟩
      first | rfl | (simp; first | done | omega)
set_option maxRecDepth 100000 in
set_option maxHeartbeats 1000000 in
theorem rright_6 (s o l c f q y c0 c1 c2 c3 c4 c5 c6 c7 : Int) (fin : Bool) (dA : Option Addr) (dn dc : Nat) (rA : Option Addr) (rn rc : Nat) (w : World) (dn_ : dn ≤ dc) (dcm : dc ≤ 9223372036854775807) (s0 : 0 ≤ s) (o0 : 0 ≤ o) (l0 : 0 ≤ l) (c_0 : 0 ≤ c) (f0 : 0 ≤ f) (q0 : 0 ≤ q) (y0 : 0 ≤ y) (s1 : s < 18446744073709551616) (o1 : o < 18446744073709551616) (l1 : l < 18446744073709551616) (c_1 : c < 18446744073709551616) (f1 : f < 18446744073709551616) (q1 : q < 18446744073709551616) (y1 : y < 18446744073709551616) :
    Calls Try.prog 11 #[frV ⟨6, s, o, fin, l, c, f, q, y, c0, c1, c2, c3, c4, c5, c6, c7⟩ ⟨dA, dn, dc⟩ ⟨rA, rn, rc⟩] w (FrPost (.bool (decide ((dn : Int) ≤ 512) && decide (o ≤ 1099511627776) && decide (o + (dn : Int) ≤ 1099511627776))) w) := by
  simp only [frV, frL]
  have hb : Below w.heap.size w (w.alloc (.cells #[.int .i64 6, .int .u64 s, .int .u64 o, .slice dA dn dc, .bool fin, .int .u64 l, .int .u64 c, .int .u64 f, .int .u64 q, .int .u64 y, .slice rA rn rc,
      .int .u8 c0, .int .u8 c1, .int .u8 c2, .int .u8 c3, .int .u8 c4, .int .u8 c5, .int .u8 c6, .int .u8 c7] 31)) := (Below.refl _ _).alloc (Nat.le_refl _) _
  have hs : (w.alloc (.cells #[.int .i64 6, .int .u64 s, .int .u64 o, .slice dA dn dc, .bool fin, .int .u64 l, .int .u64 c, .int .u64 f, .int .u64 q, .int .u64 y, .slice rA rn rc,
      .int .u8 c0, .int .u8 c1, .int .u8 c2, .int .u8 c3, .int .u8 c4, .int .u8 c5, .int .u8 c6, .int .u8 c7] 31)).heap.size = w.heap.size + 1 := by simp
  have HB := Lib.hid hb; clear hb hs
  go_enter Try.func11, Try.ntmps11
  go_wp2_with fail
  all_goals
    go_ret
    refine ⟨?_, HB.out⟩
    first | rfl | (simp; first | done | omega)
set_option maxRecDepth 100000 in
set_option maxHeartbeats 1000000 in
theorem rright_8 (s o l c f q y c0 c1 c2 c3 c4 c5 c6 c7 : Int) (fin : Bool) (dA : Option Addr) (dn dc : Nat) (rA : Option Addr) (rn rc : Nat) (w : World) (dn_ : dn ≤ dc) (dcm : dc ≤ 9223372036854775807) (s0 : 0 ≤ s) (o0 : 0 ≤ o) (l0 : 0 ≤ l) (c_0 : 0 ≤ c) (f0 : 0 ≤ f) (q0 : 0 ≤ q) (y0 : 0 ≤ y) (s1 : s < 18446744073709551616) (o1 : o < 18446744073709551616) (l1 : l < 18446744073709551616) (c_1 : c < 18446744073709551616) (f1 : f < 18446744073709551616) (q1 : q < 18446744073709551616) (y1 : y < 18446744073709551616) :
    Calls Try.prog 11 #[frV ⟨8, s, o, fin, l, c, f, q, y, c0, c1, c2, c3, c4, c5, c6, c7⟩ ⟨dA, dn, dc⟩ ⟨rA, rn, rc⟩] w (FrPost (.bool (smL [s] && (decide ((dn : Int) ≤ 512) && decide (o ≤ 1099511627776) && decide (o + (dn : Int) ≤ 1099511627776)))) w) := by
  simp only [frV, frL]
  have hb : Below w.heap.size w (w.alloc (.cells #[.int .i64 8, .int .u64 s, .int .u64 o, .slice dA dn dc, .bool fin, .int .u64 l, .int .u64 c, .int .u64 f, .int .u64 q, .int .u64 y, .slice rA rn rc,
      .int .u8 c0, .int .u8 c1, .int .u8 c2, .int .u8 c3, .int .u8 c4, .int .u8 c5, .int .u8 c6, .int .u8 c7] 31)) := (Below.refl _ _).alloc (Nat.le_refl _) _
  have hs : (w.alloc (.cells #[.int .i64 8, .int .u64 s, .int .u64 o, .slice dA dn dc, .bool fin, .int .u64 l, .int .u64 c, .int .u64 f, .int .u64 q, .int .u64 y, .slice rA rn rc,
      .int .u8 c0, .int .u8 c1, .int .u8 c2, .int .u8 c3, .int .u8 c4, .int .u8 c5, .int .u8 c6, .int .u8 c7] 31)).heap.size = w.heap.size + 1 := by simp
  have hu := UsP.new (w.alloc (.cells #[.int .i64 8, .int .u64 s, .int .u64 o, .slice dA dn dc, .bool fin, .int .u64 l, .int .u64 c, .int .u64 f, .int .u64 q, .int .u64 y, .slice rA rn rc,
      .int .u8 c0, .int .u8 c1, .int .u8 c2, .int .u8 c3, .int .u8 c4, .int .u8 c5, .int .u8 c6, .int .u8 c7] 31)) (fun _ => True) 25 [s] (by intro x hx; simp at hx; omega) #[.int .u64 s] rfl (w.heap.size + 1) (by simp) trivial
  have hs := small_l_any _ _ 1 1 [s] _ hu (by decide) (by decide)
  have hb2 := hb.alloc (by simp) (.cells #[.int .u64 s] 25)
  obtain ⟨b, hbb⟩ : ∃ b, smL [s] = b := ⟨_, rfl⟩
  rw [hbb] at hs ⊢
  have HS := Lib.hid hs
  have HB := Lib.hid hb2; clear hb hs hb2 hu hbb
  cases b with
  | false =>
    go_enter Try.func11, Try.ntmps11
    go_wp2_with fail
    refine (HS.out).mono ?_
    rintro e w' ⟨rfl, rfl⟩
    go_wp2_with fail
    all_goals
      go_ret
      refine ⟨?_, HB.out⟩
      first | rfl | (simp; first | done | omega)
  | true =>
    go_enter Try.func11, Try.ntmps11
    go_wp2_with fail
    refine (HS.out).mono ?_
    rintro e w' ⟨rfl, rfl⟩
    go_wp2_with fail
    all_goals
      go_ret
      refine ⟨?_, HB.out⟩
      first | rfl | (simp; first | done | omega)
set_option maxRecDepth 100000 in
set_option maxHeartbeats 1000000 in
theorem rright_16 (s o l c f q y c0 c1 c2 c3 c4 c5 c6 c7 : Int) (fin : Bool) (dA : Option Addr) (dn dc : Nat) (rA : Option Addr) (rn rc : Nat) (w : World) (dn_ : dn ≤ dc) (dcm : dc ≤ 9223372036854775807) (s0 : 0 ≤ s) (o0 : 0 ≤ o) (l0 : 0 ≤ l) (c_0 : 0 ≤ c) (f0 : 0 ≤ f) (q0 : 0 ≤ q) (y0 : 0 ≤ y) (s1 : s < 18446744073709551616) (o1 : o < 18446744073709551616) (l1 : l < 18446744073709551616) (c_1 : c < 18446744073709551616) (f1 : f < 18446744073709551616) (q1 : q < 18446744073709551616) (y1 : y < 18446744073709551616) :
    Calls Try.prog 11 #[frV ⟨16, s, o, fin, l, c, f, q, y, c0, c1, c2, c3, c4, c5, c6, c7⟩ ⟨dA, dn, dc⟩ ⟨rA, rn, rc⟩] w (FrPost (.bool (decide (l ≤ 1099511627776))) w) := by
  simp only [frV, frL]
  have hb : Below w.heap.size w (w.alloc (.cells #[.int .i64 16, .int .u64 s, .int .u64 o, .slice dA dn dc, .bool fin, .int .u64 l, .int .u64 c, .int .u64 f, .int .u64 q, .int .u64 y, .slice rA rn rc,
      .int .u8 c0, .int .u8 c1, .int .u8 c2, .int .u8 c3, .int .u8 c4, .int .u8 c5, .int .u8 c6, .int .u8 c7] 31)) := (Below.refl _ _).alloc (Nat.le_refl _) _
  have hs : (w.alloc (.cells #[.int .i64 16, .int .u64 s, .int .u64 o, .slice dA dn dc, .bool fin, .int .u64 l, .int .u64 c, .int .u64 f, .int .u64 q, .int .u64 y, .slice rA rn rc,
      .int .u8 c0, .int .u8 c1, .int .u8 c2, .int .u8 c3, .int .u8 c4, .int .u8 c5, .int .u8 c6, .int .u8 c7] 31)).heap.size = w.heap.size + 1 := by simp
  have HB := Lib.hid hb; clear hb hs
  go_enter Try.func11, Try.ntmps11
  go_wp2_with fail
  all_goals
    go_ret
    refine ⟨?_, HB.out⟩
    first | rfl | (simp; first | done | omega)
set_option maxRecDepth 100000 in
set_option maxHeartbeats 1000000 in
theorem rright_17 (s o l c f q y c0 c1 c2 c3 c4 c5 c6 c7 : Int) (fin : Bool) (dA : Option Addr) (dn dc : Nat) (rA : Option Addr) (rn rc : Nat) (w : World) (dn_ : dn ≤ dc) (dcm : dc ≤ 9223372036854775807) (s0 : 0 ≤ s) (o0 : 0 ≤ o) (l0 : 0 ≤ l) (c_0 : 0 ≤ c) (f0 : 0 ≤ f) (q0 : 0 ≤ q) (y0 : 0 ≤ y) (s1 : s < 18446744073709551616) (o1 : o < 18446744073709551616) (l1 : l < 18446744073709551616) (c_1 : c < 18446744073709551616) (f1 : f < 18446744073709551616) (q1 : q < 18446744073709551616) (y1 : y < 18446744073709551616) :
    Calls Try.prog 11 #[frV ⟨17, s, o, fin, l, c, f, q, y, c0, c1, c2, c3, c4, c5, c6, c7⟩ ⟨dA, dn, dc⟩ ⟨rA, rn, rc⟩] w (FrPost (.bool (smL [s] && (decide (l ≤ 1099511627776)))) w) := by
  simp only [frV, frL]
  have hb : Below w.heap.size w (w.alloc (.cells #[.int .i64 17, .int .u64 s, .int .u64 o, .slice dA dn dc, .bool fin, .int .u64 l, .int .u64 c, .int .u64 f, .int .u64 q, .int .u64 y, .slice rA rn rc,
      .int .u8 c0, .int .u8 c1, .int .u8 c2, .int .u8 c3, .int .u8 c4, .int .u8 c5, .int .u8 c6, .int .u8 c7] 31)) := (Below.refl _ _).alloc (Nat.le_refl _) _
  have hs : (w.alloc (.cells #[.int .i64 17, .int .u64 s, .int .u64 o, .slice dA dn dc, .bool fin, .int .u64 l, .int .u64 c, .int .u64 f, .int .u64 q, .int .u64 y, .slice rA rn rc,
      .int .u8 c0, .int .u8 c1, .int .u8 c2, .int .u8 c3, .int .u8 c4, .int .u8 c5, .int .u8 c6, .int .u8 c7] 31)).heap.size = w.heap.size + 1 := by simp
  have hu := UsP.new (w.alloc (.cells #[.int .i64 17, .int .u64 s, .int .u64 o, .slice dA dn dc, .bool fin, .int .u64 l, .int .u64 c, .int .u64 f, .int .u64 q, .int .u64 y, .slice rA rn rc,
      .int .u8 c0, .int .u8 c1, .int .u8 c2, .int .u8 c3, .int .u8 c4, .int .u8 c5, .int .u8 c6, .int .u8 c7] 31)) (fun _ => True) 25 [s] (by intro x hx; simp at hx; omega) #[.int .u64 s] rfl (w.heap.size + 1) (by simp) trivial
  have hs := small_l_any _ _ 1 1 [s] _ hu (by decide) (by decide)
  have hb2 := hb.alloc (by simp) (.cells #[.int .u64 s] 25)
  obtain ⟨b, hbb⟩ : ∃ b, smL [s] = b := ⟨_, rfl⟩
  rw [hbb] at hs ⊢
  have HS := Lib.hid hs
  have HB := Lib.hid hb2; clear hb hs hb2 hu hbb
  cases b with
  | false =>
    go_enter Try.func11, Try.ntmps11
    go_wp2_with fail
    refine (HS.out).mono ?_
    rintro e w' ⟨rfl, rfl⟩
    go_wp2_with fail
    all_goals
      go_ret
      refine ⟨?_, HB.out⟩
      first | rfl | (simp; first | done | omega)
  | true =>
    go_enter Try.func11, Try.ntmps11
    go_wp2_with fail
    refine (HS.out).mono ?_
    rintro e w' ⟨rfl, rfl⟩
    go_wp2_with fail
    all_goals
      go_ret
      refine ⟨?_, HB.out⟩
      first | rfl | (simp; first | done | omega)
set_option maxRecDepth 100000 in
set_option maxHeartbeats 1000000 in
theorem rright_18 (s o l c f q y c0 c1 c2 c3 c4 c5 c6 c7 : Int) (fin : Bool) (dA : Option Addr) (dn dc : Nat) (rA : Option Addr) (rn rc : Nat) (w : World) (dn_ : dn ≤ dc) (dcm : dc ≤ 9223372036854775807) (s0 : 0 ≤ s) (o0 : 0 ≤ o) (l0 : 0 ≤ l) (c_0 : 0 ≤ c) (f0 : 0 ≤ f) (q0 : 0 ≤ q) (y0 : 0 ≤ y) (s1 : s < 18446744073709551616) (o1 : o < 18446744073709551616) (l1 : l < 18446744073709551616) (c_1 : c < 18446744073709551616) (f1 : f < 18446744073709551616) (q1 : q < 18446744073709551616) (y1 : y < 18446744073709551616) :
    Calls Try.prog 11 #[frV ⟨18, s, o, fin, l, c, f, q, y, c0, c1, c2, c3, c4, c5, c6, c7⟩ ⟨dA, dn, dc⟩ ⟨rA, rn, rc⟩] w (FrPost (.bool (decide (l ≤ 1048576))) w) := by
  simp only [frV, frL]
  have hb : Below w.heap.size w (w.alloc (.cells #[.int .i64 18, .int .u64 s, .int .u64 o, .slice dA dn dc, .bool fin, .int .u64 l, .int .u64 c, .int .u64 f, .int .u64 q, .int .u64 y, .slice rA rn rc,
      .int .u8 c0, .int .u8 c1, .int .u8 c2, .int .u8 c3, .int .u8 c4, .int .u8 c5, .int .u8 c6, .int .u8 c7] 31)) := (Below.refl _ _).alloc (Nat.le_refl _) _
  have hs : (w.alloc (.cells #[.int .i64 18, .int .u64 s, .int .u64 o, .slice dA dn dc, .bool fin, .int .u64 l, .int .u64 c, .int .u64 f, .int .u64 q, .int .u64 y, .slice rA rn rc,
      .int .u8 c0, .int .u8 c1, .int .u8 c2, .int .u8 c3, .int .u8 c4, .int .u8 c5, .int .u8 c6, .int .u8 c7] 31)).heap.size = w.heap.size + 1 := by simp
  have HB := Lib.hid hb; clear hb hs
  go_enter Try.func11, Try.ntmps11
  go_wp2_with fail
  all_goals
    go_ret
    refine ⟨?_, HB.out⟩
    first | rfl | (simp; first | done | omega)
set_option maxRecDepth 100000 in
set_option maxHeartbeats 1000000 in
theorem rright_20 (s o l c f q y c0 c1 c2 c3 c4 c5 c6 c7 : Int) (fin : Bool) (dA : Option Addr) (dn dc : Nat) (rA : Option Addr) (rn rc : Nat) (w : World) (dn_ : dn ≤ dc) (dcm : dc ≤ 9223372036854775807) (s0 : 0 ≤ s) (o0 : 0 ≤ o) (l0 : 0 ≤ l) (c_0 : 0 ≤ c) (f0 : 0 ≤ f) (q0 : 0 ≤ q) (y0 : 0 ≤ y) (s1 : s < 18446744073709551616) (o1 : o < 18446744073709551616) (l1 : l < 18446744073709551616) (c_1 : c < 18446744073709551616) (f1 : f < 18446744073709551616) (q1 : q < 18446744073709551616) (y1 : y < 18446744073709551616) :
    Calls Try.prog 11 #[frV ⟨20, s, o, fin, l, c, f, q, y, c0, c1, c2, c3, c4, c5, c6, c7⟩ ⟨dA, dn, dc⟩ ⟨rA, rn, rc⟩] w (FrPost (.bool (smL [l])) w) := by
  simp only [frV, frL]
  have hb : Below w.heap.size w (w.alloc (.cells #[.int .i64 20, .int .u64 s, .int .u64 o, .slice dA dn dc, .bool fin, .int .u64 l, .int .u64 c, .int .u64 f, .int .u64 q, .int .u64 y, .slice rA rn rc,
      .int .u8 c0, .int .u8 c1, .int .u8 c2, .int .u8 c3, .int .u8 c4, .int .u8 c5, .int .u8 c6, .int .u8 c7] 31)) := (Below.refl _ _).alloc (Nat.le_refl _) _
  have hs : (w.alloc (.cells #[.int .i64 20, .int .u64 s, .int .u64 o, .slice dA dn dc, .bool fin, .int .u64 l, .int .u64 c, .int .u64 f, .int .u64 q, .int .u64 y, .slice rA rn rc,
      .int .u8 c0, .int .u8 c1, .int .u8 c2, .int .u8 c3, .int .u8 c4, .int .u8 c5, .int .u8 c6, .int .u8 c7] 31)).heap.size = w.heap.size + 1 := by simp
  have hu := UsP.new (w.alloc (.cells #[.int .i64 20, .int .u64 s, .int .u64 o, .slice dA dn dc, .bool fin, .int .u64 l, .int .u64 c, .int .u64 f, .int .u64 q, .int .u64 y, .slice rA rn rc,
      .int .u8 c0, .int .u8 c1, .int .u8 c2, .int .u8 c3, .int .u8 c4, .int .u8 c5, .int .u8 c6, .int .u8 c7] 31)) (fun _ => True) 25 [l] (by intro x hx; simp at hx; omega) #[.int .u64 l] rfl (w.heap.size + 1) (by simp) trivial
  have hs := small_l_any _ _ 1 1 [l] _ hu (by decide) (by decide)
  have hb2 := hb.alloc (by simp) (.cells #[.int .u64 l] 25)
  obtain ⟨b, hbb⟩ : ∃ b, smL [l] = b := ⟨_, rfl⟩
  rw [hbb] at hs ⊢
  have HS := Lib.hid hs
  have HB := Lib.hid hb2; clear hb hs hb2 hu hbb
  cases b with
  | false =>
    go_enter Try.func11, Try.ntmps11
    go_wp2_with fail
    refine (HS.out).mono ?_
    rintro e w' ⟨rfl, rfl⟩
    go_wp2_with fail
    all_goals
      go_ret
      refine ⟨?_, HB.out⟩
      first | rfl | (simp; first | done | omega)
  | true =>
    go_enter Try.func11, Try.ntmps11
    go_wp2_with fail
    refine (HS.out).mono ?_
    rintro e w' ⟨rfl, rfl⟩
    go_wp2_with fail
    all_goals
      go_ret
      refine ⟨?_, HB.out⟩
      first | rfl | (simp; first | done | omega)
set_option maxRecDepth 100000 in
set_option maxHeartbeats 1000000 in
theorem rright_24 (s o l c f q y c0 c1 c2 c3 c4 c5 c6 c7 : Int) (fin : Bool) (dA : Option Addr) (dn dc : Nat) (rA : Option Addr) (rn rc : Nat) (w : World) (dn_ : dn ≤ dc) (dcm : dc ≤ 9223372036854775807) (s0 : 0 ≤ s) (o0 : 0 ≤ o) (l0 : 0 ≤ l) (c_0 : 0 ≤ c) (f0 : 0 ≤ f) (q0 : 0 ≤ q) (y0 : 0 ≤ y) (s1 : s < 18446744073709551616) (o1 : o < 18446744073709551616) (l1 : l < 18446744073709551616) (c_1 : c < 18446744073709551616) (f1 : f < 18446744073709551616) (q1 : q < 18446744073709551616) (y1 : y < 18446744073709551616) :
    Calls Try.prog 11 #[frV ⟨24, s, o, fin, l, c, f, q, y, c0, c1, c2, c3, c4, c5, c6, c7⟩ ⟨dA, dn, dc⟩ ⟨rA, rn, rc⟩] w (FrPost (.bool (smL [q, l] && (decide (l ≤ q)))) w) := by
  simp only [frV, frL]
  have hb : Below w.heap.size w (w.alloc (.cells #[.int .i64 24, .int .u64 s, .int .u64 o, .slice dA dn dc, .bool fin, .int .u64 l, .int .u64 c, .int .u64 f, .int .u64 q, .int .u64 y, .slice rA rn rc,
      .int .u8 c0, .int .u8 c1, .int .u8 c2, .int .u8 c3, .int .u8 c4, .int .u8 c5, .int .u8 c6, .int .u8 c7] 31)) := (Below.refl _ _).alloc (Nat.le_refl _) _
  have hs : (w.alloc (.cells #[.int .i64 24, .int .u64 s, .int .u64 o, .slice dA dn dc, .bool fin, .int .u64 l, .int .u64 c, .int .u64 f, .int .u64 q, .int .u64 y, .slice rA rn rc,
      .int .u8 c0, .int .u8 c1, .int .u8 c2, .int .u8 c3, .int .u8 c4, .int .u8 c5, .int .u8 c6, .int .u8 c7] 31)).heap.size = w.heap.size + 1 := by simp
  have hu := UsP.new (w.alloc (.cells #[.int .i64 24, .int .u64 s, .int .u64 o, .slice dA dn dc, .bool fin, .int .u64 l, .int .u64 c, .int .u64 f, .int .u64 q, .int .u64 y, .slice rA rn rc,
      .int .u8 c0, .int .u8 c1, .int .u8 c2, .int .u8 c3, .int .u8 c4, .int .u8 c5, .int .u8 c6, .int .u8 c7] 31)) (fun _ => True) 25 [q, l] (by intro x hx; simp at hx; omega) #[.int .u64 q, .int .u64 l] rfl (w.heap.size + 1) (by simp) trivial
  have hs := small_l_any _ _ 2 2 [q, l] _ hu (by decide) (by decide)
  have hb2 := hb.alloc (by simp) (.cells #[.int .u64 q, .int .u64 l] 25)
  obtain ⟨b, hbb⟩ : ∃ b, smL [q, l] = b := ⟨_, rfl⟩
  rw [hbb] at hs ⊢
  have HS := Lib.hid hs
  have HB := Lib.hid hb2; clear hb hs hb2 hu hbb
  cases b with
  | false =>
    go_enter Try.func11, Try.ntmps11
    go_wp2_with fail
    refine (HS.out).mono ?_
    rintro e w' ⟨rfl, rfl⟩
    go_wp2_with fail
    all_goals
      go_ret
      refine ⟨?_, HB.out⟩
      first | rfl | (simp; first | done | omega)
  | true =>
    go_enter Try.func11, Try.ntmps11
    go_wp2_with fail
    refine (HS.out).mono ?_
    rintro e w' ⟨rfl, rfl⟩
    go_wp2_with fail
    all_goals
      go_ret
      refine ⟨?_, HB.out⟩
      first | rfl | (simp; first | done | omega)
set_option maxRecDepth 100000 in
set_option maxHeartbeats 1000000 in
theorem rright_25 (s o l c f q y c0 c1 c2 c3 c4 c5 c6 c7 : Int) (fin : Bool) (dA : Option Addr) (dn dc : Nat) (rA : Option Addr) (rn rc : Nat) (w : World) (dn_ : dn ≤ dc) (dcm : dc ≤ 9223372036854775807) (s0 : 0 ≤ s) (o0 : 0 ≤ o) (l0 : 0 ≤ l) (c_0 : 0 ≤ c) (f0 : 0 ≤ f) (q0 : 0 ≤ q) (y0 : 0 ≤ y) (s1 : s < 18446744073709551616) (o1 : o < 18446744073709551616) (l1 : l < 18446744073709551616) (c_1 : c < 18446744073709551616) (f1 : f < 18446744073709551616) (q1 : q < 18446744073709551616) (y1 : y < 18446744073709551616) :
    Calls Try.prog 11 #[frV ⟨25, s, o, fin, l, c, f, q, y, c0, c1, c2, c3, c4, c5, c6, c7⟩ ⟨dA, dn, dc⟩ ⟨rA, rn, rc⟩] w (FrPost (.bool (smL [q])) w) := by
  simp only [frV, frL]
  have hb : Below w.heap.size w (w.alloc (.cells #[.int .i64 25, .int .u64 s, .int .u64 o, .slice dA dn dc, .bool fin, .int .u64 l, .int .u64 c, .int .u64 f, .int .u64 q, .int .u64 y, .slice rA rn rc,
      .int .u8 c0, .int .u8 c1, .int .u8 c2, .int .u8 c3, .int .u8 c4, .int .u8 c5, .int .u8 c6, .int .u8 c7] 31)) := (Below.refl _ _).alloc (Nat.le_refl _) _
  have hs : (w.alloc (.cells #[.int .i64 25, .int .u64 s, .int .u64 o, .slice dA dn dc, .bool fin, .int .u64 l, .int .u64 c, .int .u64 f, .int .u64 q, .int .u64 y, .slice rA rn rc,
      .int .u8 c0, .int .u8 c1, .int .u8 c2, .int .u8 c3, .int .u8 c4, .int .u8 c5, .int .u8 c6, .int .u8 c7] 31)).heap.size = w.heap.size + 1 := by simp
  have hu := UsP.new (w.alloc (.cells #[.int .i64 25, .int .u64 s, .int .u64 o, .slice dA dn dc, .bool fin, .int .u64 l, .int .u64 c, .int .u64 f, .int .u64 q, .int .u64 y, .slice rA rn rc,
      .int .u8 c0, .int .u8 c1, .int .u8 c2, .int .u8 c3, .int .u8 c4, .int .u8 c5, .int .u8 c6, .int .u8 c7] 31)) (fun _ => True) 25 [q] (by intro x hx; simp at hx; omega) #[.int .u64 q] rfl (w.heap.size + 1) (by simp) trivial
  have hs := small_l_any _ _ 1 1 [q] _ hu (by decide) (by decide)
  have hb2 := hb.alloc (by simp) (.cells #[.int .u64 q] 25)
  obtain ⟨b, hbb⟩ : ∃ b, smL [q] = b := ⟨_, rfl⟩
  rw [hbb] at hs ⊢
  have HS := Lib.hid hs
  have HB := Lib.hid hb2; clear hb hs hb2 hu hbb
  cases b with
  | false =>
    go_enter Try.func11, Try.ntmps11
    go_wp2_with fail
    refine (HS.out).mono ?_
    rintro e w' ⟨rfl, rfl⟩
    go_wp2_with fail
    all_goals
      go_ret
      refine ⟨?_, HB.out⟩
      first | rfl | (simp; first | done | omega)
  | true =>
    go_enter Try.func11, Try.ntmps11
    go_wp2_with fail
    refine (HS.out).mono ?_
    rintro e w' ⟨rfl, rfl⟩
    go_wp2_with fail
    all_goals
      go_ret
      refine ⟨?_, HB.out⟩
      first | rfl | (simp; first | done | omega)
set_option maxRecDepth 100000 in
set_option maxHeartbeats 1000000 in
theorem rright_28 (s o l c f q y c0 c1 c2 c3 c4 c5 c6 c7 : Int) (fin : Bool) (dA : Option Addr) (dn dc : Nat) (rA : Option Addr) (rn rc : Nat) (w : World) (dn_ : dn ≤ dc) (dcm : dc ≤ 9223372036854775807) (s0 : 0 ≤ s) (o0 : 0 ≤ o) (l0 : 0 ≤ l) (c_0 : 0 ≤ c) (f0 : 0 ≤ f) (q0 : 0 ≤ q) (y0 : 0 ≤ y) (s1 : s < 18446744073709551616) (o1 : o < 18446744073709551616) (l1 : l < 18446744073709551616) (c_1 : c < 18446744073709551616) (f1 : f < 18446744073709551616) (q1 : q < 18446744073709551616) (y1 : y < 18446744073709551616) :
    Calls Try.prog 11 #[frV ⟨28, s, o, fin, l, c, f, q, y, c0, c1, c2, c3, c4, c5, c6, c7⟩ ⟨dA, dn, dc⟩ ⟨rA, rn, rc⟩] w (FrPost (.bool (smL [c] && (decide ((dn : Int) ≤ 32)))) w) := by
  simp only [frV, frL]
  have hb : Below w.heap.size w (w.alloc (.cells #[.int .i64 28, .int .u64 s, .int .u64 o, .slice dA dn dc, .bool fin, .int .u64 l, .int .u64 c, .int .u64 f, .int .u64 q, .int .u64 y, .slice rA rn rc,
      .int .u8 c0, .int .u8 c1, .int .u8 c2, .int .u8 c3, .int .u8 c4, .int .u8 c5, .int .u8 c6, .int .u8 c7] 31)) := (Below.refl _ _).alloc (Nat.le_refl _) _
  have hs : (w.alloc (.cells #[.int .i64 28, .int .u64 s, .int .u64 o, .slice dA dn dc, .bool fin, .int .u64 l, .int .u64 c, .int .u64 f, .int .u64 q, .int .u64 y, .slice rA rn rc,
      .int .u8 c0, .int .u8 c1, .int .u8 c2, .int .u8 c3, .int .u8 c4, .int .u8 c5, .int .u8 c6, .int .u8 c7] 31)).heap.size = w.heap.size + 1 := by simp
  have hu := UsP.new (w.alloc (.cells #[.int .i64 28, .int .u64 s, .int .u64 o, .slice dA dn dc, .bool fin, .int .u64 l, .int .u64 c, .int .u64 f, .int .u64 q, .int .u64 y, .slice rA rn rc,
      .int .u8 c0, .int .u8 c1, .int .u8 c2, .int .u8 c3, .int .u8 c4, .int .u8 c5, .int .u8 c6, .int .u8 c7] 31)) (fun _ => True) 25 [c] (by intro x hx; simp at hx; omega) #[.int .u64 c] rfl (w.heap.size + 1) (by simp) trivial
  have hs := small_l_any _ _ 1 1 [c] _ hu (by decide) (by decide)
  have hb2 := hb.alloc (by simp) (.cells #[.int .u64 c] 25)
  obtain ⟨b, hbb⟩ : ∃ b, smL [c] = b := ⟨_, rfl⟩
  rw [hbb] at hs ⊢
  have HS := Lib.hid hs
  have HB := Lib.hid hb2; clear hb hs hb2 hu hbb
  cases b with
  | false =>
    go_enter Try.func11, Try.ntmps11
    go_wp2_with fail
    refine (HS.out).mono ?_
    rintro e w' ⟨rfl, rfl⟩
    go_wp2_with fail
    all_goals
      go_ret
      refine ⟨?_, HB.out⟩
      first | rfl | (simp; first | done | omega)
  | true =>
    go_enter Try.func11, Try.ntmps11
    go_wp2_with fail
    refine (HS.out).mono ?_
    rintro e w' ⟨rfl, rfl⟩
    go_wp2_with fail
    all_goals
      go_ret
      refine ⟨?_, HB.out⟩
      first | rfl | (simp; first | done | omega)
set_option maxRecDepth 100000 in
set_option maxHeartbeats 1000000 in
theorem rright_k (k s o l c f q y c0 c1 c2 c3 c4 c5 c6 c7 : Int) (fin : Bool) (dA : Option Addr) (dn dc : Nat) (rA : Option Addr) (rn rc : Nat) (w : World) (dn_ : dn ≤ dc) (dcm : dc ≤ 9223372036854775807) (s0 : 0 ≤ s) (o0 : 0 ≤ o) (l0 : 0 ≤ l) (c_0 : 0 ≤ c) (f0 : 0 ≤ f) (q0 : 0 ≤ q) (y0 : 0 ≤ y) (s1 : s < 18446744073709551616) (o1 : o < 18446744073709551616) (l1 : l < 18446744073709551616) (c_1 : c < 18446744073709551616) (f1 : f < 18446744073709551616) (q1 : q < 18446744073709551616) (y1 : y < 18446744073709551616) (e0 : (k == 0) = false) (e1 : (k == 1) = false) (e30 : (k == 30) = false) (e2 : (k == 2) = false) (e4 : (k == 4) = false) (e5 : (k == 5) = false) (e6 : (k == 6) = false) (e8 : (k == 8) = false) (e16 : (k == 16) = false) (e18 : (k == 18) = false) (e20 : (k == 20) = false) (e17 : (k == 17) = false) (e24 : (k == 24) = false) (e25 : (k == 25) = false) (e26 : (k == 26) = false) (e27 : (k == 27) = false) (e28 : (k == 28) = false) :
    Calls Try.prog 11 #[frV ⟨k, s, o, fin, l, c, f, q, y, c0, c1, c2, c3, c4, c5, c6, c7⟩ ⟨dA, dn, dc⟩ ⟨rA, rn, rc⟩] w (FrPost (.bool (false)) w) := by
  simp only [frV, frL]
  have hb : Below w.heap.size w (w.alloc (.cells #[.int .i64 k, .int .u64 s, .int .u64 o, .slice dA dn dc, .bool fin, .int .u64 l, .int .u64 c, .int .u64 f, .int .u64 q, .int .u64 y, .slice rA rn rc,
      .int .u8 c0, .int .u8 c1, .int .u8 c2, .int .u8 c3, .int .u8 c4, .int .u8 c5, .int .u8 c6, .int .u8 c7] 31)) := (Below.refl _ _).alloc (Nat.le_refl _) _
  have hs : (w.alloc (.cells #[.int .i64 k, .int .u64 s, .int .u64 o, .slice dA dn dc, .bool fin, .int .u64 l, .int .u64 c, .int .u64 f, .int .u64 q, .int .u64 y, .slice rA rn rc,
      .int .u8 c0, .int .u8 c1, .int .u8 c2, .int .u8 c3, .int .u8 c4, .int .u8 c5, .int .u8 c6, .int .u8 c7] 31)).heap.size = w.heap.size + 1 := by simp
  have HB := Lib.hid hb; clear hb hs
  go_enter Try.func11, Try.ntmps11
  go_wp2_with fail
  all_goals
    go_ret
    refine ⟨?_, HB.out⟩
    rfl
end Go.Proofs.Ytkahndjflhgccaa
