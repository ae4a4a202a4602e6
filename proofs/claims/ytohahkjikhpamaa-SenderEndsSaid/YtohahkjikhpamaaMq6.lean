/-
  Whether rows of bytes as strings are the same; one step of an array's comparison.
-/
import Derived.Test.YtohahkjikhpamaaProg
import Derived.Test.YtohahkjikhpamaaBytes
import Derived.ChangeKeysEq
import Derived.Test.YtohahkjikhpamaaMq5
import Derived.Test.YtohahkjikhpamaaDj
import Derived.Lib.SlBytesConst
namespace Go.Proofs.Ytohahkjikhpamaa
section
set_option linter.unusedVariables false
open Go.RowKit
end
section
set_option linter.unusedVariables false
set_option linter.unusedSimpArgs false
open Go.RowKit
/-- A buffer that the call made behind the world w0; F: blocks that it has nothing to do with. -/
structure Oz (w0 W : World) (p : Nat) (S : OS) (F : Nat → Prop) : Prop where
  ok : S.ok
  bf : ∃ O, Of W w0.heap.size p O S ∧ ∀ b, F b → ¬ O b ∧ b < W.heap.size
  bl : Below w0.heap.size w0 W
section
variable {w0 W W' : World} {p : Nat} {S : OS} {F : Nat → Prop}
theorem Oz.below (h : Oz w0 W p S F) (k : Below W.heap.size W W') : Oz w0 W' p S F := by
  obtain ⟨O, h1, h2⟩ := h.bf
  exact ⟨h.ok, ⟨O, h1.below k, fun b hb => ⟨(h2 b hb).1, Nat.lt_of_lt_of_le (h2 b hb).2 k.size⟩⟩, h.bl.trans (k.mono h.bl.size)⟩
theorem Oz.drewN (h : Oz w0 W p S F) (n : Nat) : Oz w0 (W.drewN n) p S F := h.below ⟨rfl, rfl, rfl, Nat.le_refl _, fun _ _ => rfl⟩
theorem Oz.weak {F' : Nat → Prop} (h : Oz w0 W p S F) (hF : ∀ b, F' b → F b) : Oz w0 W p S F' := by
  obtain ⟨O, h1, h2⟩ := h.bf
  exact ⟨h.ok, ⟨O, h1, fun b hb => h2 b (hF b hb)⟩, h.bl⟩
/-- Blocks that came up later are none of its. -/
theorem Oz.fresh {F' : Nat → Prop} (h : Oz w0 W p S F) (k : Below W.heap.size W W') (hF : ∀ b, F' b → F b ∨ (W.heap.size ≤ b ∧ b < W'.heap.size)) : Oz w0 W' p S F' := by
  obtain ⟨O, h1, h2⟩ := h.bf
  refine ⟨h.ok, ⟨O, h1.below k, fun b hb => ?_⟩, h.bl.trans (k.mono h.bl.size)⟩
  rcases hF b hb with h' | ⟨h', h''⟩
  · exact ⟨(h2 b h').1, Nat.lt_of_lt_of_le (h2 b h').2 k.size⟩
  · exact ⟨fun e => by have := (h1.lt b e).2; omega, h''⟩
/-- What a call that changes it leaves. -/
def OzPost (w0 W : World) (p : Nat) (S' : OS) (F : Nat → Prop) (r : Value) (e : Ending) (W' : World) : Prop := e = .returned r ∧ Oz w0 W' p S' F ∧ (∀ b, F b → W'.heap[b]? = W.heap[b]?) ∧ W.heap.size ≤ W'.heap.size
theorem oz_new (w0 : World) : Calls Try.prog 18 #[] w0 fun e w' => ∃ p, e = .returned (.pointer (some ⟨p, 0, none⟩)) ∧ Oz w0 w' p os0 (fun _ => False) :=
  (onew_any w0).mono fun e w' ⟨p, h1, ⟨O, h2⟩, h3⟩ => ⟨p, h1, os0_ok, ⟨O, h2, fun b hb => hb.elim⟩, h3⟩
theorem oz_post {O : Nat → Prop} {r : Value} {S' : OS} {e : Ending} (h1 : Of W w0.heap.size p O S) (h2 : ∀ b, F b → ¬ O b ∧ b < W.heap.size) (bl : Below w0.heap.size w0 W) (ok' : S'.ok) (h : OfPost r w0.heap.size p O S' W e W') : OzPost w0 W p S' F r e W' := by
  obtain ⟨he, O', hb, hk, ho⟩ := h
  refine ⟨he, ⟨ok', ⟨O', hb, fun b hb' => ⟨fun e => ?_, Nat.lt_of_lt_of_le (h2 b hb').2 hk.size⟩⟩, hk.below bl bl.size fun j hj => (h1.lt j hj).1⟩, fun b hb' => hk.block b (h2 b hb').2 (h2 b hb').1, hk.size⟩
  rcases ho b e with h' | h'
  · exact (h2 b hb').1 h'
  · have := (h2 b hb').2; omega
theorem oz_write (h : Oz w0 W p S F) (A : Option Addr) (n c : Nat) (bs : List Int) (hr : Rd W W.heap.size A n bs) (hnc : n ≤ c) (hn : n < 9223372036854775808) (hc : c < 9223372036854775808) :
    Calls Try.prog 20 #[.pointer (some ⟨p, 0, none⟩), .slice A n c] W (OzPost w0 W p (writeO S bs) F (.int .i64 (writeN S n))) := by
  obtain ⟨O, h1, h2⟩ := h.bf
  exact (owrite_any h1 h.ok h.bl.size A n c bs hr hnc hn hc).mono fun e w' hP => oz_post h1 h2 h.bl (writeO_ok h.ok hr.2.1) hP
theorem oz_finish (h : Oz w0 W p S F) : Calls Try.prog 21 #[.pointer (some ⟨p, 0, none⟩)] W (OzPost w0 W p (finO S) F (.bool (!S.ov))) := by
  obtain ⟨O, h1, h2⟩ := h.bf
  exact (ofinish_any h1 h.ok).mono fun e w' hP => oz_post h1 h2 h.bl (finO_ok h.ok) hP
theorem oz_acked (h : Oz w0 W p S F) (hL : S.bs.length ≤ 1099511627776) (off : Nat) (ho : off < 18446744073709551616) (n : Int) (hn : -9223372036854775808 ≤ n ∧ n < 9223372036854775808) (fin : Bool) :
    Calls Try.prog 28 #[.pointer (some ⟨p, 0, none⟩), .int .u64 off, .int .i64 n, .bool fin] W (OzPost w0 W p (ackO S off n.toNat fin) F (.tuple #[])) := by
  obtain ⟨O, h1, h2⟩ := h.bf
  exact (oacked_any h1 h.ok h.bl.size hL off ho n hn fin).mono fun e w' hP => oz_post h1 h2 h.bl (ackO_ok h.ok _ _ _) hP
theorem oz_lost (h : Oz w0 W p S F) (hL : S.bs.length ≤ 1099511627776) (off : Nat) (ho : off < 18446744073709551616) (n : Int) (hn : -9223372036854775808 ≤ n ∧ n < 9223372036854775808) (fin : Bool) :
    Calls Try.prog 27 #[.pointer (some ⟨p, 0, none⟩), .int .u64 off, .int .i64 n, .bool fin] W (OzPost w0 W p (lostO S off n.toNat fin) F (.tuple #[])) := by
  obtain ⟨O, h1, h2⟩ := h.bf
  exact (olost_any h1 h.ok h.bl.size hL off ho n hn fin).mono fun e w' hP => oz_post h1 h2 h.bl (lostO_ok h.ok _ _ _) hP
/-- What Next leaves. -/
def OzNext (w0 W : World) (p : Nat) (S : OS) (most limit : Nat) (F : Nat → Prop) (e : Ending) (W' : World) : Prop :=
  ∃ v, e = .returned (.tuple #[.int .u64 (nextR S most limit).off, v, .bool (nextR S most limit).fin, .bool (nextR S most limit).yes]) ∧ Own W' W.heap.size 5 v ((S.bs.drop (nextR S most limit).off).take (nextR S most limit).n) ∧
    Oz w0 W' p (nextO S most limit) F ∧ (∀ b, F b → W'.heap[b]? = W.heap[b]?) ∧ W.heap.size ≤ W'.heap.size
theorem oz_next (h : Oz w0 W p S F) (hL : S.bs.length ≤ 1099511627776) (most : Int) (hm : -9223372036854775808 ≤ most ∧ most < 9223372036854775808) (limit : Nat) (hl : limit < 18446744073709551616) :
    Calls Try.prog 31 #[.pointer (some ⟨p, 0, none⟩), .int .i64 most, .int .u64 limit] W (OzNext w0 W p S most.toNat limit F) := by
  obtain ⟨O, h1, h2⟩ := h.bf
  refine (onext_any h1 h.ok h.bl.size hL most hm limit hl).mono fun e w' ⟨v, he, ho, O', hb, hK, hO⟩ => ?_
  have hp := oz_post (r := .tuple #[]) (e := .returned (.tuple #[])) h1 h2 h.bl (nextO_ok h.ok _ _) ⟨rfl, O', hb, hK, hO⟩
  exact ⟨v, he, ho, hp.2⟩
theorem oz_room (h : Oz w0 W p S F) : Calls Try.prog 19 #[.pointer (some ⟨p, 0, none⟩)] W fun e w' => e = .returned (.int .i64 (roomO S)) ∧ w' = W := by
  obtain ⟨O, h1, _⟩ := h.bf
  exact oroom_any h1 h.ok
theorem oz_sent (h : Oz w0 W p S F) : Calls Try.prog 26 #[.pointer (some ⟨p, 0, none⟩)] W fun e w' => e = .returned (.int .u64 S.gn) ∧ w' = W := by
  obtain ⟨O, h1, _⟩ := h.bf
  exact osent_any h1
theorem oz_whole (h : Oz w0 W p S F) : Calls Try.prog 29 #[.pointer (some ⟨p, 0, none⟩)] W fun e w' => e = .returned (.bool (wholeO S)) ∧ w' = W := by
  obtain ⟨O, h1, _⟩ := h.bf
  exact owhole_any h1 h.ok
end
end
end Go.Proofs.Ytohahkjikhpamaa
