/-
  A buffer of the law's own (Oz); the law's known.
-/
import Derived.Test.YtbejpafephofaaaGreatMq10
import Derived.Test.YtbejpafephofaaaGreatMq11
import Derived.Lib.SlBytesConst
import Derived.Test.YtbejpafephofaaaGreatMq5
import Derived.Test.YtbejpafephofaaaGreatMq0
import Derived.OpenShut
import Derived.Test.YtbejpafephofaaaGreatProg
import Derived.Deep.Slices
import Derived.ChangeSlices
import Derived.WalkKit
import Derived.SizedLaws
import Derived.Laws.BitsAllLaws
import Derived.Laws.Bits64b
import Derived.Laws.DeepNot64
namespace Go.Proofs.YtbejpafephofaaaGreat
section
set_option linter.unusedVariables false
set_option linter.unusedSimpArgs false
open Go.RowKit
/-- A buffer that the call made behind the world w0; F: blocks that it has nothing to do with. -/
structure Oz (w0 W : World) (p : Nat) (S : OS) (F : Nat → Prop) : Prop where
  ok : S.ok
  bf : ∃ O, Of W w0.heap.size p O S ∧ ∀ b, F b → ¬ O b ∧ b < W.heap.size
  bl : Below w0.heap.size w0 W
section
variable {w0 W W' : World} {p : Nat} {S : OS} {F : Nat → Prop}
theorem Oz.below (h : Oz w0 W p S F) (k : Below W.heap.size W W') : Oz w0 W' p S F := by
  obtain ⟨O, h1, h2⟩ := h.bf
  exact ⟨h.ok, ⟨O, h1.below k, fun b hb => ⟨(h2 b hb).1, Nat.lt_of_lt_of_le (h2 b hb).2 k.size⟩⟩, h.bl.trans (k.mono h.bl.size)⟩
theorem Oz.drewN (h : Oz w0 W p S F) (n : Nat) : Oz w0 (W.drewN n) p S F := h.below ⟨rfl, rfl, rfl, Nat.le_refl _, fun _ _ => rfl⟩
theorem Oz.weak {F' : Nat → Prop} (h : Oz w0 W p S F) (hF : ∀ b, F' b → F b) : Oz w0 W p S F' := by
  obtain ⟨O, h1, h2⟩ := h.bf
  exact ⟨h.ok, ⟨O, h1, fun b hb => h2 b (hF b hb)⟩, h.bl⟩
/-- Blocks that came up later are none of its. -/
theorem Oz.fresh {F' : Nat → Prop} (h : Oz w0 W p S F) (k : Below W.heap.size W W') (hF : ∀ b, F' b → F b ∨ (W.heap.size ≤ b ∧ b < W'.heap.size)) : Oz w0 W' p S F' := by
  obtain ⟨O, h1, h2⟩ := h.bf
  refine ⟨h.ok, ⟨O, h1.below k, fun b hb => ?_⟩, h.bl.trans (k.mono h.bl.size)⟩
  rcases hF b hb with h' | ⟨h', h''⟩
  · exact ⟨(h2 b h').1, Nat.lt_of_lt_of_le (h2 b h').2 k.size⟩
  · exact ⟨fun e => by have := (h1.lt b e).2; omega, h''⟩
/-- What a call that changes it leaves. -/
def OzPost (w0 W : World) (p : Nat) (S' : OS) (F : Nat → Prop) (r : Value) (e : Ending) (W' : World) : Prop := e = .returned r ∧ Oz w0 W' p S' F ∧ (∀ b, F b → W'.heap[b]? = W.heap[b]?) ∧ W.heap.size ≤ W'.heap.size
theorem oz_new (w0 : World) : Calls Tryz.prog 8 #[] w0 fun e w' => ∃ p, e = .returned (.pointer (some ⟨p, 0, none⟩)) ∧ Oz w0 w' p os0 (fun _ => False) :=
  (onew_any w0).mono fun e w' ⟨p, h1, ⟨O, h2⟩, h3⟩ => ⟨p, h1, os0_ok, ⟨O, h2, fun b hb => hb.elim⟩, h3⟩
theorem oz_post {O : Nat → Prop} {r : Value} {S' : OS} {e : Ending} (h1 : Of W w0.heap.size p O S) (h2 : ∀ b, F b → ¬ O b ∧ b < W.heap.size) (bl : Below w0.heap.size w0 W) (ok' : S'.ok) (h : OfPost r w0.heap.size p O S' W e W') : OzPost w0 W p S' F r e W' := by
  obtain ⟨he, O', hb, hk, ho⟩ := h
  refine ⟨he, ⟨ok', ⟨O', hb, fun b hb' => ⟨fun e => ?_, Nat.lt_of_lt_of_le (h2 b hb').2 hk.size⟩⟩, hk.below bl bl.size fun j hj => (h1.lt j hj).1⟩, fun b hb' => hk.block b (h2 b hb').2 (h2 b hb').1, hk.size⟩
  rcases ho b e with h' | h'
  · exact (h2 b hb').1 h'
  · have := (h2 b hb').2; omega
theorem oz_write (h : Oz w0 W p S F) (A : Option Addr) (n c : Nat) (bs : List Int) (hr : Rd W W.heap.size A n bs) (hnc : n ≤ c) (hn : n < 9223372036854775808) (hc : c < 9223372036854775808) :
    Calls Tryz.prog 30 #[.pointer (some ⟨p, 0, none⟩), .slice A n c] W (OzPost w0 W p (writeO S bs) F (.int .i64 (writeN S n))) := by
  obtain ⟨O, h1, h2⟩ := h.bf
  exact (owrite_any h1 h.ok h.bl.size A n c bs hr hnc hn hc).mono fun e w' hP => oz_post h1 h2 h.bl (writeO_ok h.ok hr.2.1) hP
theorem oz_finish (h : Oz w0 W p S F) : Calls Tryz.prog 33 #[.pointer (some ⟨p, 0, none⟩)] W (OzPost w0 W p (finO S) F (.bool (!S.ov))) := by
  obtain ⟨O, h1, h2⟩ := h.bf
  exact (ofinish_any h1 h.ok).mono fun e w' hP => oz_post h1 h2 h.bl (finO_ok h.ok) hP
theorem oz_acked (h : Oz w0 W p S F) (hL : S.bs.length ≤ 1099511627776) (off : Nat) (ho : off < 18446744073709551616) (n : Int) (hn : -9223372036854775808 ≤ n ∧ n < 9223372036854775808) (fin : Bool) :
    Calls Tryz.prog 39 #[.pointer (some ⟨p, 0, none⟩), .int .u64 off, .int .i64 n, .bool fin] W (OzPost w0 W p (ackO S off n.toNat fin) F (.tuple #[])) := by
  obtain ⟨O, h1, h2⟩ := h.bf
  exact (oacked_any h1 h.ok h.bl.size hL off ho n hn fin).mono fun e w' hP => oz_post h1 h2 h.bl (ackO_ok h.ok _ _ _) hP
theorem oz_lost (h : Oz w0 W p S F) (hL : S.bs.length ≤ 1099511627776) (off : Nat) (ho : off < 18446744073709551616) (n : Int) (hn : -9223372036854775808 ≤ n ∧ n < 9223372036854775808) (fin : Bool) :
    Calls Tryz.prog 41 #[.pointer (some ⟨p, 0, none⟩), .int .u64 off, .int .i64 n, .bool fin] W (OzPost w0 W p (lostO S off n.toNat fin) F (.tuple #[])) := by
  obtain ⟨O, h1, h2⟩ := h.bf
  exact (olost_any h1 h.ok h.bl.size hL off ho n hn fin).mono fun e w' hP => oz_post h1 h2 h.bl (lostO_ok h.ok _ _ _) hP
/-- What Next leaves. -/
def OzNext (w0 W : World) (p : Nat) (S : OS) (most limit : Nat) (F : Nat → Prop) (e : Ending) (W' : World) : Prop :=
  ∃ v, e = .returned (.tuple #[.int .u64 (nextR S most limit).off, v, .bool (nextR S most limit).fin, .bool (nextR S most limit).yes]) ∧ Own W' W.heap.size 5 v ((S.bs.drop (nextR S most limit).off).take (nextR S most limit).n) ∧
    Oz w0 W' p (nextO S most limit) F ∧ (∀ b, F b → W'.heap[b]? = W.heap[b]?) ∧ W.heap.size ≤ W'.heap.size
theorem oz_next (h : Oz w0 W p S F) (hL : S.bs.length ≤ 1099511627776) (most : Int) (hm : -9223372036854775808 ≤ most ∧ most < 9223372036854775808) (limit : Nat) (hl : limit < 18446744073709551616) :
    Calls Tryz.prog 56 #[.pointer (some ⟨p, 0, none⟩), .int .i64 most, .int .u64 limit] W (OzNext w0 W p S most.toNat limit F) := by
  obtain ⟨O, h1, h2⟩ := h.bf
  refine (onext_any h1 h.ok h.bl.size hL most hm limit hl).mono fun e w' ⟨v, he, ho, O', hb, hK, hO⟩ => ?_
  have hp := oz_post (r := .tuple #[]) (e := .returned (.tuple #[])) h1 h2 h.bl (nextO_ok h.ok _ _) ⟨rfl, O', hb, hK, hO⟩
  exact ⟨v, he, ho, hp.2⟩
theorem oz_room (h : Oz w0 W p S F) : Calls Tryz.prog 29 #[.pointer (some ⟨p, 0, none⟩)] W fun e w' => e = .returned (.int .i64 (roomO S)) ∧ w' = W := by
  obtain ⟨O, h1, _⟩ := h.bf
  exact oroom_any h1 h.ok
theorem oz_sent (h : Oz w0 W p S F) : Calls Tryz.prog 49 #[.pointer (some ⟨p, 0, none⟩)] W fun e w' => e = .returned (.int .u64 S.gn) ∧ w' = W := by
  obtain ⟨O, h1, _⟩ := h.bf
  exact osent_any h1
theorem oz_whole (h : Oz w0 W p S F) : Calls Tryz.prog 40 #[.pointer (some ⟨p, 0, none⟩)] W fun e w' => e = .returned (.bool (wholeO S)) ∧ w' = W := by
  obtain ⟨O, h1, _⟩ := h.bf
  exact owhole_any h1 h.ok
end
end
section
set_option linter.unusedVariables false
set_option linter.unusedSimpArgs false
/-- Nothing is lost, the first are acknowledged, Finish was not called. -/
structure Fr (S : OS) (total base : Nat) : Prop where
  ok : S.ok
  len : S.bs.length = total
  ak : ∀ j, S.ak j = decide (j < base)
  ag : ∀ j, S.ag j = false
  ov : S.ov = false
  bg : base ≤ S.gn
section
variable {S : OS} {total base : Nat}
theorem Fr.le (h : Fr S total base) : base ≤ S.gn ∧ S.gn ≤ total := ⟨h.bg, by have := h.ok.gl; have := h.len; omega⟩
theorem Fr.bas (h : Fr S total base) : baseO S = base := by
  have := h.le
  refine runF_is (by rw [h.len]; omega) (fun j hj => by rw [Nat.zero_add, h.ak]; simpa using hj) fun _ => by rw [Nat.zero_add, h.ak]; simp
theorem Fr.room (h : Fr S total base) : roomO S = 2048 - (total - base) := by
  unfold roomO
  rw [h.ov, h.bas, h.len]
  rfl
theorem Fr.write (h : Fr S total base) {d : List Int} (hd : Byt d) : Fr (writeO S d) (total + min d.length (2048 - (total - base))) base := by
  refine ⟨writeO_ok h.ok hd, ?_, h.ak, h.ag, h.ov, h.bg⟩
  show (S.bs ++ d.take (writeN S d.length)).length = _
  have hw : writeN S d.length = min d.length (2048 - (total - base)) := by rw [writeN, h.room]
  rw [List.length_append, List.length_take, h.len, hw]
  omega
theorem Fr.first (h : Fr S total base) : firstO S = S.gn := runF_is (Nat.le_refl _) (fun j hj => by rw [h.ag]; rfl) fun hl => absurd hl (by omega)
theorem Fr.end_ (h : Fr S total base) : endO S = false := by unfold endO; rw [h.ov]; rfl
/-- What is not sent yet goes. -/
theorem Fr.next (h : Fr S total base) {limit : Nat} (hl : total ≤ limit) (most : Nat) : nextR S most limit = if min total (S.gn + most) = S.gn then ⟨0, 0, false, false⟩ else ⟨S.gn, min total (S.gn + most) - S.gn, false, true⟩ := by
  have hle := h.le
  unfold nextR fromO
  rw [h.first, if_neg (Nat.lt_irrefl _), h.end_, h.len]
  have e : max S.gn (min (min total limit) (S.gn + most)) = min total (S.gn + most) := by omega
  dsimp only
  rw [e]
  by_cases hc : min total (S.gn + most) = S.gn
  · rw [if_pos hc, if_pos hc.symm, if_neg (by simp)]
  · rw [if_neg hc, if_neg (fun k => hc k.symm)]
    simp
theorem Fr.sent (h : Fr S total base) {limit : Nat} (hl : total ≤ limit) (most : Nat) : Fr (nextO S most limit) total base ∧ (nextO S most limit).gn = min total (S.gn + most) := by
  have hle := h.le
  have hg : (nextO S most limit).gn = min total (S.gn + most) := by
    show max S.gn (if (nextR S most limit).n = 0 then 0 else (nextR S most limit).off + (nextR S most limit).n) = _
    rw [h.next hl most]
    by_cases hc : min total (S.gn + most) = S.gn
    · rw [if_pos hc]
      dsimp only
      rw [if_pos rfl]
      omega
    · rw [if_neg hc]
      dsimp only
      rw [if_neg (by omega)]
      omega
  refine ⟨⟨nextO_ok h.ok _ _, h.len, h.ak, fun j => ?_, h.ov, by rw [hg]; omega⟩, hg⟩
  show (S.ag j && _) = false
  rw [h.ag]
  rfl
theorem Fr.ack (h : Fr S total base) (k : Nat) (hk : base + k ≤ S.gn) : Fr (ackO S base k false) total (base + k) := by
  refine ⟨ackO_ok h.ok _ _ _, h.len, fun j => ?_, fun j => ?_, h.ov, hk⟩
  · show (S.ak j || inT S base k j) = _
    rw [h.ak]
    unfold inT
    by_cases h1 : j < base
    · have : j < base + k := by omega
      simp [h1, this]
    · by_cases h2 : j < base + k
      · have : j < S.gn := by omega
        have : base ≤ j := by omega
        simp [*]
      · simp [h1, h2]
  · show (S.ag j && _) = false
    rw [h.ag]
    rfl
end
/-- A row of flags. -/
def tabB (f : Nat → Bool) (n : Nat) : List Bool := (List.range n).map f
theorem tabB_len (f : Nat → Bool) (n : Nat) : (tabB f n).length = n := by simp [tabB]
theorem tabB_get (f : Nat → Bool) (n i : Nat) (h : i < n) : (tabB f n)[i]? = some (f i) := by simp [tabB, h]
theorem tabB_congr {f g : Nat → Bool} {n : Nat} (h : ∀ j, j < n → f j = g j) : tabB f n = tabB g n := by
  apply List.ext_getElem?
  intro i
  by_cases hi : i < n
  · rw [tabB_get _ _ _ hi, tabB_get _ _ _ hi, h i hi]
  · rw [List.getElem?_eq_none (by rw [tabB_len]; omega), List.getElem?_eq_none (by rw [tabB_len]; omega)]
theorem tabB_set (f : Nat → Bool) (n i : Nat) (v : Bool) : (tabB f n).set i v = tabB (fun j => if j = i then v else f j) n := by
  apply List.ext_getElem?
  intro j
  rw [List.getElem?_set, tabB_len]
  by_cases hj : j < n
  · rw [tabB_get _ _ _ hj, tabB_get _ _ _ hj]
    by_cases e : i = j
    · subst e
      simp [hj]
    · simp [e, show ¬ j = i from fun k => e k.symm]
  · rw [List.getElem?_eq_none (by rw [tabB_len]; omega), List.getElem?_eq_none (by rw [tabB_len]; omega)]
    split
    · rw [if_neg (by omega)]
    · rfl
theorem tabB_more (f : Nat → Bool) (n : Nat) (h : f n = false) : tabB f n ++ [false] = tabB f (n + 1) := by
  unfold tabB
  rw [List.range_succ, List.map_append, List.map_singleton, h]
/-- The document's rows of flags keep what is acknowledged, what is to be sent again. -/
structure Rf (S : OS) (C A : List Bool) : Prop where
  c : C = tabB S.ak S.bs.length
  a : ∃ aw : Nat → Bool, A = tabB aw S.bs.length ∧ (∀ j, S.ag j = (aw j && !S.ak j)) ∧ ∀ j, aw j = true → j < S.gn
theorem rf0 : Rf os0 [] [] := ⟨rfl, fun _ => false, rfl, fun j => rfl, fun j h => by cases h⟩
theorem tabB_app (f : Nat → Bool) (n : Nat) : ∀ k, (∀ j, n ≤ j → f j = false) → tabB f n ++ List.replicate k false = tabB f (n + k)
  | 0, _ => by simp
  | k + 1, h => by
    rw [List.replicate_succ', ← List.append_assoc, tabB_app f n k h, tabB_more f (n + k) (h _ (by omega))]
    rfl
section
variable {S : OS} {C A : List Bool}
theorem Rf.len (r : Rf S C A) : C.length = S.bs.length ∧ A.length = S.bs.length := by
  obtain ⟨h1, aw, h2, _⟩ := r
  rw [h1, h2, tabB_len, tabB_len]
  exact ⟨rfl, rfl⟩
theorem Rf.write (r : Rf S C A) (h : S.ok) (d : List Int) : Rf (writeO S d) (C ++ List.replicate (writeN S d.length) false) (A ++ List.replicate (writeN S d.length) false) := by
  obtain ⟨h1, aw, h2, h3, h4⟩ := r
  have hg := h.gl
  have hlen : (writeO S d).bs.length = S.bs.length + writeN S d.length := by
    show (S.bs ++ d.take _).length = _
    have : writeN S d.length ≤ d.length := Nat.min_le_left _ _
    simp; omega
  refine ⟨?_, aw, ?_, h3, h4⟩
  · rw [hlen, h1, tabB_app]
    · rfl
    · intro j hj
      cases ha : S.ak j with
      | false => rfl
      | true => have := h.ka j ha; omega
  · rw [hlen, h2, tabB_app]
    intro j hj
    cases ha : aw j with
    | false => rfl
    | true => have := h4 j ha; omega
theorem Rf.ack (h1 : C = tabB S.ak S.bs.length) {aw : Nat → Bool} (h2 : A = tabB aw S.bs.length) (h3 : ∀ j, S.ag j = (aw j && !S.ak j)) (h4 : ∀ j, aw j = true → j < S.gn) (off n : Nat) (fin : Bool) : Rf (ackO S off n fin) (tabB (fun j => S.ak j || inT S off n j) S.bs.length) A := by
  refine ⟨rfl, aw, h2, fun j => ?_, h4⟩
  show (S.ag j && !inT S off n j) = (aw j && !(S.ak j || inT S off n j))
  rw [h3]
  cases aw j <;> cases S.ak j <;> cases inT S off n j <;> rfl
theorem Rf.lost (h1 : C = tabB S.ak S.bs.length) {aw : Nat → Bool} (h2 : A = tabB aw S.bs.length) (h3 : ∀ j, S.ag j = (aw j && !S.ak j)) (h4 : ∀ j, aw j = true → j < S.gn) (off n : Nat) (fin : Bool) : Rf (lostO S off n fin) C (tabB (fun j => aw j || inT S off n j) S.bs.length) := by
  refine ⟨h1, fun j => aw j || inT S off n j, rfl, fun j => ?_, fun j hj => ?_⟩
  · show (S.ag j || (inT S off n j && !S.ak j)) = ((aw j || inT S off n j) && !S.ak j)
    rw [h3]
    cases aw j <;> cases S.ak j <;> cases inT S off n j <;> rfl
  · rcases (Bool.or_eq_true _ _).mp hj with k | k
    · exact h4 j k
    · exact (inT_gn k).2.2
theorem Rf.sent (h1 : C = tabB S.ak S.bs.length) {aw : Nat → Bool} (h2 : A = tabB aw S.bs.length) (h3 : ∀ j, S.ag j = (aw j && !S.ak j)) (h4 : ∀ j, aw j = true → j < S.gn) (off n : Nat) (fin : Bool) : Rf (sentO S off n fin) C (tabB (fun j => aw j && !(decide (off ≤ j) && decide (j < off + n))) S.bs.length) := by
  refine ⟨h1, _, rfl, fun j => ?_, fun j hj => ?_⟩
  · show (S.ag j && !(decide (off ≤ j) && decide (j < off + n))) = ((aw j && !(decide (off ≤ j) && decide (j < off + n))) && !S.ak j)
    rw [h3]
    cases aw j <;> cases S.ak j <;> cases (decide (off ≤ j) && decide (j < off + n)) <;> rfl
  · rw [Bool.and_eq_true] at hj
    have := h4 j hj.1
    show j < max S.gn _
    omega
end
end
section
set_option linter.unusedVariables false
open Go.RowKit
theorem cell_lt {w : World} {b off : Nat} {v : Value} (h : w.cell? ⟨b, off, none⟩ = some v) : b < w.heap.size := by
  rcases Nat.lt_or_ge b w.heap.size with hlt | hge
  · exact hlt
  · have e : w.heap[b]? = none := Array.getElem?_eq_none hge
    simp [World.cell?, e] at h
end
section
set_option linter.unusedVariables false
open Go.RowKit Go.ChangeShapes Go.WideShapes Go.Deep
section
variable {H : Type} {enc : TypeId × Value → H} {P : Program} {w : World}
end
end
section
set_option linter.unusedVariables false
set_option linter.unusedSimpArgs false
open Go.RowKit Go.ChangeShapes Go.WideShapes Go.Deep
/-- A slice of signed numbers that can be read. -/
structure InN (w : World) (A : Option Addr) (n : Nat) (xs : List Int) : Prop where
  len : xs.length = n
  wd : ∀ x ∈ xs, -9223372036854775808 ≤ x ∧ x < 9223372036854775808
  at_ : 0 < n → ∃ b off, A = some ⟨b, off, none⟩ ∧ b < w.heap.size ∧ ∀ i x, xs[i]? = some x → w.cell? ⟨b, off + i, none⟩ = some (.int .i64 x)
theorem InN.below {w w' : World} {A : Option Addr} {n : Nat} {xs : List Int} (h : InN w A n xs) (k : Below w.heap.size w w') : InN w' A n xs := ⟨h.len, h.wd, fun hn => by
  obtain ⟨b, off, e, hb, hc⟩ := h.at_ hn
  exact ⟨b, off, e, Nat.lt_of_lt_of_le hb k.size, fun i x hi => (k.cell (p := ⟨b, _, none⟩) hb).trans (hc i x hi)⟩⟩
theorem InN.nil_ (w : World) (A : Option Addr) : InN w A 0 [] := ⟨rfl, fun x h => (by cases h), fun h => absurd h (by omega)⟩
end
section
set_option linter.unusedVariables false
set_option linter.unusedSimpArgs false
open Go.RowKit Go.ChangeShapes Go.WideShapes Go.Deep
/-- A slice of bools that can be read. -/
structure BoP (w : World) (A : Option Addr) (n : Nat) (bs : List Bool) : Prop where
  len : bs.length = n
  at_ : 0 < n → ∃ b off, A = some ⟨b, off, none⟩ ∧ b < w.heap.size ∧ ∀ i x, bs[i]? = some x → w.cell? ⟨b, off + i, none⟩ = some (.bool x)
theorem BoP.below {w w' : World} {A : Option Addr} {n : Nat} {bs : List Bool} (h : BoP w A n bs) (k : Below w.heap.size w w') : BoP w' A n bs := ⟨h.len, fun hn => by
  obtain ⟨b, off, e, hb, hc⟩ := h.at_ hn
  exact ⟨b, off, e, Nat.lt_of_lt_of_le hb k.size, fun i x hi => (k.cell (p := ⟨b, _, none⟩) hb).trans (hc i x hi)⟩⟩
section
variable {H : Type} {enc : TypeId × Value → H} {w : World}
end
end
section
set_option linter.unusedVariables false
open Go.RowKit
theorem wrapI (n : Int) : wrap64 n = (n + 9223372036854775808) % 18446744073709551616 - 9223372036854775808 := by unfold wrap64; rfl
end
end Go.Proofs.YtbejpafephofaaaGreat
