/-
  A buffer of the law's own (Oz); the law's known.
-/
import Derived.Test.YtoakahofiodbhaaDp
import Derived.Test.YtoakahofiodbhaaDj
import Derived.Test.YtoakahofiodbhaaStrs
import Derived.Lib.SlBytesConst
namespace Go.Proofs.Ytoakahofiodbhaa
set_option linter.unusedVariables false
set_option linter.unusedSimpArgs false
open Go.RowKit
/-- A buffer that the call made behind the world w0; F: blocks that it has nothing to do with. -/
structure Oz (w0 W : World) (p : Nat) (S : OS) (F : Nat → Prop) : Prop where
  ok : S.ok
  bf : ∃ O, Of W w0.heap.size p O S ∧ ∀ b, F b → ¬ O b ∧ b < W.heap.size
  bl : Below w0.heap.size w0 W
section
variable {w0 W W' : World} {p : Nat} {S : OS} {F : Nat → Prop}
theorem Oz.below (h : Oz w0 W p S F) (k : Below W.heap.size W W') : Oz w0 W' p S F := by
  obtain ⟨O, h1, h2⟩ := h.bf
  exact ⟨h.ok, ⟨O, h1.below k, fun b hb => ⟨(h2 b hb).1, Nat.lt_of_lt_of_le (h2 b hb).2 k.size⟩⟩, h.bl.trans (k.mono h.bl.size)⟩
theorem Oz.drewN (h : Oz w0 W p S F) (n : Nat) : Oz w0 (W.drewN n) p S F := h.below ⟨rfl, rfl, rfl, Nat.le_refl _, fun _ _ => rfl⟩
theorem Oz.weak {F' : Nat → Prop} (h : Oz w0 W p S F) (hF : ∀ b, F' b → F b) : Oz w0 W p S F' := by
  obtain ⟨O, h1, h2⟩ := h.bf
  exact ⟨h.ok, ⟨O, h1, fun b hb => h2 b (hF b hb)⟩, h.bl⟩
/-- Blocks that came up later are none of its. -/
theorem Oz.fresh {F' : Nat → Prop} (h : Oz w0 W p S F) (k : Below W.heap.size W W') (hF : ∀ b, F' b → F b ∨ (W.heap.size ≤ b ∧ b < W'.heap.size)) : Oz w0 W' p S F' := by
  obtain ⟨O, h1, h2⟩ := h.bf
  refine ⟨h.ok, ⟨O, h1.below k, fun b hb => ?_⟩, h.bl.trans (k.mono h.bl.size)⟩
  rcases hF b hb with h' | ⟨h', h''⟩
  · exact ⟨(h2 b h').1, Nat.lt_of_lt_of_le (h2 b h').2 k.size⟩
  · exact ⟨fun e => by have := (h1.lt b e).2; omega, h''⟩
/-- What a call that changes it leaves. -/
def OzPost (w0 W : World) (p : Nat) (S' : OS) (F : Nat → Prop) (r : Value) (e : Ending) (W' : World) : Prop := e = .returned r ∧ Oz w0 W' p S' F ∧ (∀ b, F b → W'.heap[b]? = W.heap[b]?) ∧ W.heap.size ≤ W'.heap.size
theorem oz_new (w0 : World) : Calls Try.prog 6 #[] w0 fun e w' => ∃ p, e = .returned (.pointer (some ⟨p, 0, none⟩)) ∧ Oz w0 w' p os0 (fun _ => False) :=
  (onew_any w0).mono fun e w' ⟨p, h1, ⟨O, h2⟩, h3⟩ => ⟨p, h1, os0_ok, ⟨O, h2, fun b hb => hb.elim⟩, h3⟩
theorem oz_post {O : Nat → Prop} {r : Value} {S' : OS} {e : Ending} (h1 : Of W w0.heap.size p O S) (h2 : ∀ b, F b → ¬ O b ∧ b < W.heap.size) (bl : Below w0.heap.size w0 W) (ok' : S'.ok) (h : OfPost r w0.heap.size p O S' W e W') : OzPost w0 W p S' F r e W' := by
  obtain ⟨he, O', hb, hk, ho⟩ := h
  refine ⟨he, ⟨ok', ⟨O', hb, fun b hb' => ⟨fun e => ?_, Nat.lt_of_lt_of_le (h2 b hb').2 hk.size⟩⟩, hk.below bl bl.size fun j hj => (h1.lt j hj).1⟩, fun b hb' => hk.block b (h2 b hb').2 (h2 b hb').1, hk.size⟩
  rcases ho b e with h' | h'
  · exact (h2 b hb').1 h'
  · have := (h2 b hb').2; omega
theorem oz_write (h : Oz w0 W p S F) (A : Option Addr) (n c : Nat) (bs : List Int) (hr : Rd W W.heap.size A n bs) (hnc : n ≤ c) (hn : n < 9223372036854775808) (hc : c < 9223372036854775808) :
    Calls Try.prog 8 #[.pointer (some ⟨p, 0, none⟩), .slice A n c] W (OzPost w0 W p (writeO S bs) F (.int .i64 (writeN S n))) := by
  obtain ⟨O, h1, h2⟩ := h.bf
  exact (owrite_any h1 h.ok h.bl.size A n c bs hr hnc hn hc).mono fun e w' hP => oz_post h1 h2 h.bl (writeO_ok h.ok hr.2.1) hP
theorem oz_finish (h : Oz w0 W p S F) : Calls Try.prog 12 #[.pointer (some ⟨p, 0, none⟩)] W (OzPost w0 W p (finO S) F (.bool (!S.ov))) := by
  obtain ⟨O, h1, h2⟩ := h.bf
  exact (ofinish_any h1 h.ok).mono fun e w' hP => oz_post h1 h2 h.bl (finO_ok h.ok) hP
theorem oz_acked (h : Oz w0 W p S F) (hL : S.bs.length ≤ 1099511627776) (off : Nat) (ho : off < 18446744073709551616) (n : Int) (hn : -9223372036854775808 ≤ n ∧ n < 9223372036854775808) (fin : Bool) :
    Calls Try.prog 16 #[.pointer (some ⟨p, 0, none⟩), .int .u64 off, .int .i64 n, .bool fin] W (OzPost w0 W p (ackO S off n.toNat fin) F (.tuple #[])) := by
  obtain ⟨O, h1, h2⟩ := h.bf
  exact (oacked_any h1 h.ok h.bl.size hL off ho n hn fin).mono fun e w' hP => oz_post h1 h2 h.bl (ackO_ok h.ok _ _ _) hP
theorem oz_lost (h : Oz w0 W p S F) (hL : S.bs.length ≤ 1099511627776) (off : Nat) (ho : off < 18446744073709551616) (n : Int) (hn : -9223372036854775808 ≤ n ∧ n < 9223372036854775808) (fin : Bool) :
    Calls Try.prog 15 #[.pointer (some ⟨p, 0, none⟩), .int .u64 off, .int .i64 n, .bool fin] W (OzPost w0 W p (lostO S off n.toNat fin) F (.tuple #[])) := by
  obtain ⟨O, h1, h2⟩ := h.bf
  exact (olost_any h1 h.ok h.bl.size hL off ho n hn fin).mono fun e w' hP => oz_post h1 h2 h.bl (lostO_ok h.ok _ _ _) hP
/-- What Next leaves. -/
def OzNext (w0 W : World) (p : Nat) (S : OS) (most limit : Nat) (F : Nat → Prop) (e : Ending) (W' : World) : Prop :=
  ∃ v, e = .returned (.tuple #[.int .u64 (nextR S most limit).off, v, .bool (nextR S most limit).fin, .bool (nextR S most limit).yes]) ∧ Own W' W.heap.size 5 v ((S.bs.drop (nextR S most limit).off).take (nextR S most limit).n) ∧
    Oz w0 W' p (nextO S most limit) F ∧ (∀ b, F b → W'.heap[b]? = W.heap[b]?) ∧ W.heap.size ≤ W'.heap.size
theorem oz_next (h : Oz w0 W p S F) (hL : S.bs.length ≤ 1099511627776) (most : Int) (hm : -9223372036854775808 ≤ most ∧ most < 9223372036854775808) (limit : Nat) (hl : limit < 18446744073709551616) :
    Calls Try.prog 14 #[.pointer (some ⟨p, 0, none⟩), .int .i64 most, .int .u64 limit] W (OzNext w0 W p S most.toNat limit F) := by
  obtain ⟨O, h1, h2⟩ := h.bf
  refine (onext_any h1 h.ok h.bl.size hL most hm limit hl).mono fun e w' ⟨v, he, ho, O', hb, hK, hO⟩ => ?_
  have hp := oz_post (r := .tuple #[]) (e := .returned (.tuple #[])) h1 h2 h.bl (nextO_ok h.ok _ _) ⟨rfl, O', hb, hK, hO⟩
  exact ⟨v, he, ho, hp.2⟩
theorem oz_room (h : Oz w0 W p S F) : Calls Try.prog 9 #[.pointer (some ⟨p, 0, none⟩)] W fun e w' => e = .returned (.int .i64 (roomO S)) ∧ w' = W := by
  obtain ⟨O, h1, _⟩ := h.bf
  exact oroom_any h1 h.ok
theorem oz_sent (h : Oz w0 W p S F) : Calls Try.prog 19 #[.pointer (some ⟨p, 0, none⟩)] W fun e w' => e = .returned (.int .u64 S.gn) ∧ w' = W := by
  obtain ⟨O, h1, _⟩ := h.bf
  exact osent_any h1
theorem oz_whole (h : Oz w0 W p S F) : Calls Try.prog 17 #[.pointer (some ⟨p, 0, none⟩)] W fun e w' => e = .returned (.bool (wholeO S)) ∧ w' = W := by
  obtain ⟨O, h1, _⟩ := h.bf
  exact owhole_any h1 h.ok
theorem oz_len (h : Oz w0 W p S F) (hL : S.bs.length ≤ 1099511627776) : Calls Try.prog 20 #[.pointer (some ⟨p, 0, none⟩)] W fun e w' => e = .returned (.int .u64 S.bs.length) ∧ Oz w0 w' p S F ∧ Below W.heap.size W w' := by
  obtain ⟨O, h1, h2⟩ := h.bf
  exact (olen_any h1 hL).mono fun e w' ⟨he, d, hw⟩ => ⟨he, by rw [hw]; exact h.drewN d, by rw [hw]; exact below_drewN (Below.refl _ _) d⟩
theorem oz_waits (h : Oz w0 W p S F) (hL : S.bs.length ≤ 1099511627776) (limit : Nat) (hl : limit < 18446744073709551616) : Calls Try.prog 18 #[.pointer (some ⟨p, 0, none⟩), .int .u64 limit] W fun e w' => e = .returned (.bool (waitsO S limit)) ∧ Oz w0 w' p S F ∧ Below W.heap.size W w' := by
  obtain ⟨O, h1, _⟩ := h.bf
  exact (owaits_any h1 h.ok hL limit hl).mono fun e w' ⟨he, hb⟩ => ⟨he, h.below hb, hb⟩
/-- A literal's bytes, marked or not. -/
theorem rd_lit15 (w : World) (t : TypeId) (bs : List Int) (hb : Byt bs) (cs : Array Value) (fr : Nat × Nat) (hcs : cs = (bs.map (Value.int .u8)).toArray) : Rd (w.alloc (.cells cs t fr)) (w.heap.size + 1) (some ⟨w.heap.size, 0, none⟩) bs.length bs := by
  subst hcs
  refine ⟨rfl, hb, fun hp => ⟨w.heap.size, 0, rfl, by omega, fun i hi => ?_⟩⟩
  have hg : (w.alloc (.cells (bs.map (Value.int .u8)).toArray t fr)).heap[w.heap.size]? = some (.cells (bs.map (Value.int .u8)).toArray t fr) := by
    show (w.heap.push _)[w.heap.size]? = _
    simp
  rw [cell_of_row _ _ _ _ _ fr hg, Nat.zero_add]
  simp [List.getD_eq_getElem?_getD, List.getElem?_eq_getElem hi]
/-- What is written of a literal. -/
theorem oz_write_lit (h : Oz w0 W p S F) (bs : List Int) (cs : Array Value) (fr : Nat × Nat) (n : Nat) (hb : Byt bs) (hcs : cs = (bs.map (Value.int .u8)).toArray) (hl : bs.length = n) (hn : n < 9223372036854775808) :
    Calls Try.prog 8 #[.pointer (some ⟨p, 0, none⟩), .slice (some ⟨W.heap.size, 0, none⟩) n n] (W.alloc (.cells cs 5 fr)) (OzPost w0 (W.alloc (.cells cs 5 fr)) p (writeO S bs) F (.int .i64 (writeN S n))) := by
  subst hl
  have hk : Below W.heap.size W (W.alloc (.cells cs 5 fr)) := (Below.refl _ _).alloc (Nat.le_refl _) _
  have hr := rd_lit15 W 5 bs hb cs fr hcs
  have hs : (W.alloc (.cells cs 5 fr)).heap.size = W.heap.size + 1 := by simp
  exact oz_write (h.below hk) _ bs.length bs.length bs (by rw [hs]; exact hr) (Nat.le_refl _) hn hn
end
def kn1 : OS := writeO os0 [97, 98, 99]
def kn2 : OS := nextO kn1 2 9
theorem kn1_n : writeN os0 3 = 3 := rfl
theorem kn1_r : nextR kn1 2 9 = ⟨0, 2, false, true⟩ := rfl
theorem kn2_gn : kn2.gn = 2 := rfl
theorem kn2_len : kn2.bs.length = 3 := rfl
theorem kn2_room : roomO kn2 = 2045 := rfl
theorem kn_str15 : strOfNums [97, 98] = ⟨#[97, 98]⟩ := rfl
set_option maxHeartbeats 8000000 in
set_option maxRecDepth 100000 in
theorem known15_any (w : World) : Calls Try.prog 10 #[] w fun e w' => e = .returned (.bool true) ∧ Below w.heap.size w w' := by
  have HN := Lib.hid (oz_new w)
  have B1 : Hid (Byt [97, 98, 99]) := Lib.hid (fun x hx => by simp at hx; omega)
  have HA1 : Hid (∀ W p, Oz w W p os0 (fun _ => False) → Calls Try.prog 8 #[.pointer (some ⟨p, 0, none⟩), .slice (some ⟨W.heap.size, 0, none⟩) 3 3] (W.alloc (.cells #[.int .u8 97, .int .u8 98, .int .u8 99] 5 (3, 4))) (OzPost w (W.alloc (.cells #[.int .u8 97, .int .u8 98, .int .u8 99] 5 (3, 4))) p kn1 (fun _ => False) (.int .i64 3))) := Lib.hid (fun W p h => by
    have := oz_write_lit h [97, 98, 99] #[.int .u8 97, .int .u8 98, .int .u8 99] (3, 4) 3 B1.out rfl rfl (by omega)
    rw [kn1_n] at this
    exact this)
  have HA2 : Hid (∀ W p, Oz w W p kn1 (fun _ => False) → Calls Try.prog 14 #[.pointer (some ⟨p, 0, none⟩), .int .i64 2, .int .u64 9] W fun e w' => ∃ v, e = .returned (.tuple #[.int .u64 0, v, .bool false, .bool true]) ∧ Own w' W.heap.size 5 v [97, 98] ∧ Oz w w' p kn2 (fun _ => False)) := Lib.hid (fun W p h => by
    refine (oz_next h (by decide) 2 (by omega) 9 (by omega)).mono fun e w' ⟨v, he, ho, hz, _⟩ => ⟨v, ?_, ?_, hz⟩
    · rw [show (2 : Int).toNat = 2 from rfl, kn1_r] at he
      exact he
    · rw [show (2 : Int).toNat = 2 from rfl, kn1_r] at ho
      exact ho)
  have HSE : Hid (∀ W p, Oz w W p kn2 (fun _ => False) → Calls Try.prog 19 #[.pointer (some ⟨p, 0, none⟩)] W fun e w' => e = .returned (.int .u64 2) ∧ w' = W) := Lib.hid (fun W p h => oz_sent h)
  have HLE : Hid (∀ W p, Oz w W p kn2 (fun _ => False) → Calls Try.prog 20 #[.pointer (some ⟨p, 0, none⟩)] W fun e w' => e = .returned (.int .u64 3) ∧ Oz w w' p kn2 (fun _ => False)) := Lib.hid (fun W p h => (oz_len h (by decide)).mono fun e w' hP => ⟨hP.1, hP.2.1⟩)
  have HRO : Hid (∀ W p, Oz w W p kn2 (fun _ => False) → Calls Try.prog 9 #[.pointer (some ⟨p, 0, none⟩)] W fun e w' => e = .returned (.int .i64 2045) ∧ w' = W) := Lib.hid (fun W p h => oz_room h)
  have kc := fun (w : World) (C : Array Value) (n c : Nat) => Lib.run_convert_bytes_const (P := Try.prog) w 22 5 C n c Try.underlying22 Try.underlying5
  have hbb := bb_refl ⟨#[97, 98]⟩
  go_enter Try.func10, Try.ntmps10
  go_wp2_with (first
    | (go_at_call 6; (with_reducible refine HN.out.mono ?_); rintro e w1 ⟨p, rfl, hO1⟩; have H1 := Lib.hid (HA1.out w1 p hO1); clear hO1)
    | (go_at_call 8; (with_reducible refine H1.out.mono ?_); rintro e w2 ⟨rfl, hO2, _⟩; have H2 := Lib.hid (HA2.out w2 p hO2); clear hO2 H1)
    | (go_at_call 14; (with_reducible refine H2.out.mono ?_); rintro e w5 ⟨v, rfl, hv5, hO5⟩; obtain ⟨A5, c5, rfl, _, _, hr5⟩ := hv5.open_n 2 rfl; have t1 := run_text (P := Try.prog) (c := c5) hr5 22 5 9 Try.underlying22 Try.underlying5 Try.underlying9; rw [kn_str15] at t1; have H5 := Lib.hid (HSE.out w5 p hO5); have H6 := Lib.hid (HLE.out w5 p hO5); clear hO5 hv5 hr5 H2)
    | (go_at_call 19; (with_reducible refine H5.out.mono ?_); rintro e w6 ⟨rfl, hw6⟩; rw [hw6]; clear hw6)
    | (go_at_call 20; (with_reducible refine H6.out.mono ?_); rintro e w7 ⟨rfl, hO7⟩; have H7 := Lib.hid (HRO.out w7 p hO7); have HB := Lib.hid hO7.bl; clear hO7)
    | (go_at_call 9; (with_reducible refine H7.out.mono ?_); rintro e w8 ⟨rfl, hw8⟩; rw [hw8]; clear hw8))
  go_ret
  exact ⟨by rfl, HB.out⟩
end Go.Proofs.Ytoakahofiodbhaa
