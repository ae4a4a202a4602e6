/-
  Packets: a mask laid on bytes, what a packet's bytes are, what bytes say of a packet.
-/
import Derived.Test.YtehdilgnlhhjdaaMq9
import Derived.Test.YtehdilgnlhhjdaaHparses
import Derived.Test.YtehdilgnlhhjdaaPn4
import Derived.Lib.SlBytesConst
namespace Go.Proofs.Ytehdilgnlhhjdaa
section
set_option linter.unusedVariables false
set_option linter.unusedSimpArgs false
open Go.RowKit
def andB (a b : Int) : Int := bits BinOp.and IntKind.u8 a b
theorem andB_bd (a b : Int) : 0 ≤ andB a b ∧ andB a b < 256 := u8_bits_bd _ _ _
/-- The bits of a first byte that are masked. -/
def mbits (s : Int) : Int := if s = 2 then 31 else 15
/-- k bytes from at on, turned by a mask's behind the first. -/
def turnL (bs ms : List Int) (a k : Nat) : List Int := bs.mapIdx fun i x => if a ≤ i ∧ i < a + k then xorB x (ms.getD (1 + (i - a)) 0) else x
def turnF (bs : List Int) (x : Int) : List Int := bs.set 0 (xorB (bs.getD 0 0) x)
def turnB (bs ms : List Int) (a k : Nat) (x : Int) : List Int := turnL (turnF bs (andB (ms.getD 0 0) x)) ms a k
theorem turnL_len (bs ms : List Int) (a k : Nat) : (turnL bs ms a k).length = bs.length := by simp [turnL]
theorem turnF_len (bs : List Int) (x : Int) : (turnF bs x).length = bs.length := by simp [turnF]
theorem turnB_len (bs ms : List Int) (a k : Nat) (x : Int) : (turnB bs ms a k x).length = bs.length := by unfold turnB; rw [turnL_len, turnF_len]
theorem turnL_at (bs ms : List Int) (a k i : Nat) (hi : i < bs.length) : (turnL bs ms a k)[i]? = some (if a ≤ i ∧ i < a + k then xorB (bs.getD i 0) (ms.getD (1 + (i - a)) 0) else bs.getD i 0) := by
  simp [turnL, List.getElem?_mapIdx, List.getElem?_eq_getElem hi, List.getD_eq_getElem?_getD]
theorem turnL_zero (bs ms : List Int) (a : Nat) : turnL bs ms a 0 = bs := by
  apply List.ext_getElem?
  intro i
  rcases Nat.lt_or_ge i bs.length with h | h
  · rw [turnL_at _ _ _ _ _ h, if_neg (by omega), List.getD_eq_getElem?_getD, List.getElem?_eq_getElem h]; rfl
  · rw [List.getElem?_eq_none (by rw [turnL_len]; exact h), List.getElem?_eq_none h]
theorem turnL_next (bs ms : List Int) (a k : Nat) (h : a + k < bs.length) : (turnL bs ms a k)[a + k]? = some (bs.getD (a + k) 0) := by
  rw [turnL_at _ _ _ _ _ h, if_neg (by omega)]
theorem turnL_set (bs ms : List Int) (a k : Nat) (x : Int) (h : a + k < bs.length) (hx : x = xorB (bs.getD (a + k) 0) (ms.getD (1 + k) 0)) : (turnL bs ms a k).set (a + k) x = turnL bs ms a (k + 1) := by
  apply List.ext_getElem?
  intro i
  rcases Nat.lt_or_ge i bs.length with h1 | h1
  · rw [turnL_at _ _ _ _ _ h1]
    by_cases e : a + k = i
    · subst e
      rw [List.getElem?_set_self (by rw [turnL_len]; exact h), if_pos (by omega), hx, show a + k - a = k by omega]
    · rw [List.getElem?_set_ne e, turnL_at _ _ _ _ _ h1]
      by_cases e2 : a ≤ i ∧ i < a + k
      · rw [if_pos e2, if_pos (by omega)]
      · rw [if_neg e2, if_neg (by omega)]
  · rw [List.getElem?_eq_none (by rw [List.length_set, turnL_len]; exact h1), List.getElem?_eq_none (by rw [turnL_len]; exact h1)]
theorem Byt.set_ {bs : List Int} (h : Byt bs) (i : Nat) (y : Int) (hy : 0 ≤ y ∧ y < 256) : Byt (bs.set i y) := fun x hx => by
  rcases List.mem_or_eq_of_mem_set hx with h' | rfl
  · exact h x h'
  · exact hy
theorem turnF_byt (bs : List Int) (x : Int) (h : Byt bs) : Byt (turnF bs x) := h.set_ _ _ (xorB_bd _ _)
theorem turnL_byt (bs ms : List Int) (a k : Nat) (h : Byt bs) : Byt (turnL bs ms a k) := by
  intro x hx
  simp only [turnL, List.mem_mapIdx] at hx
  obtain ⟨i, hi, rfl⟩ := hx
  split
  · exact xorB_bd _ _
  · exact h _ (List.getElem_mem hi)
theorem turnB_byt (bs ms : List Int) (a k : Nat) (x : Int) (h : Byt bs) : Byt (turnB bs ms a k x) := turnL_byt _ _ _ _ (turnF_byt _ _ h)
/-- The eight bytes that a mask is made of. -/
def samS (bs : List Int) (a : Nat) : List Int := (bs.drop (a + 4)).take 8
theorem samS_len (bs : List Int) (a : Nat) (h : a + 12 ≤ bs.length) : (samS bs a).length = 8 := by unfold samS; rw [List.length_take, List.length_drop]; omega
theorem samS_byt (bs : List Int) (a : Nat) (h : Byt bs) : Byt (samS bs a) := (h.drop _).take _
/-- The sealed packet ahead of its mask: head, number, then what is sealed. -/
def bareS (sk n : Int) (m : HN) (tok pay : List Int) : List Int :=
  hencS m tok (m.w + pay.length + 8) ++ beS m.w.toNat (cutS n m.w) ++ sealS sk n (hencS m tok (m.w + pay.length + 8) ++ beS m.w.toNat (cutS n m.w)) pay
/-- With its mask on. -/
def packS (sk mk n : Int) (m : HN) (tok pay : List Int) : List Int :=
  turnB (bareS sk n m tok pay) (maskS mk (samS (bareS sk n m tok pay) (hencS m tok (m.w + pay.length + 8)).length)) (hencS m tok (m.w + pay.length + 8)).length m.w.toNat (mbits m.s)
/-- May it be? -/
def mayB (n : Int) (m : HN) (tok pay : List Int) : Bool := hrightB m tok.length && decide (n ≤ 4611686018427387903) && decide (4 ≤ m.w + pay.length) && decide (((hencS m tok (m.w + pay.length + 8)).length : Int) + (m.w + pay.length + 8) ≤ 512)
/-- What a packet's bytes say ahead of being opened: the head, the token, the number as it was cut, the bytes with their mask off, where the number ends, where the packet does. -/
structure Rev where
  m : HN
  tok : List Int
  low : Int
  x : List Int
  at_ : Nat
  en : Nat
def lowS3 (bs : List Int) : Int := bs.foldl (fun v x => bits BinOp.or IntKind.u32 (IntKind.u32.wrap (v * 256)) x) 0
/-- The first byte with its mask off. -/
def firstU (mk : Int) (bs : List Int) (m : HN) (a : Nat) : Int := xorB (bs.getD 0 0) (andB ((maskS mk (samS bs a)).getD 0 0) (mbits m.s))
def revHN (f : Int) (m : HN) : HN := { m with w := f % 4 + 1, ph := decide (m.s = 2) && decide (f / 4 % 2 = 1) }
def revS (mk : Int) (bs : List Int) : Option Rev :=
  match parseS bs with
  | none => none
  | some (m, tok, a, b) =>
    some ⟨revHN (firstU mk bs m a.toNat) m, tok, lowS3 (((turnB (bs.take b.toNat) (maskS mk (samS bs a.toNat)) a.toNat (firstU mk bs m a.toNat % 4 + 1).toNat (mbits m.s)).drop a.toNat).take (firstU mk bs m a.toNat % 4 + 1).toNat),
      turnB (bs.take b.toNat) (maskS mk (samS bs a.toNat)) a.toNat (firstU mk bs m a.toNat % 4 + 1).toNat (mbits m.s), a.toNat + (firstU mk bs m a.toNat % 4 + 1).toNat, b.toNat⟩
/-- What is opened; else why not. -/
def unpS (sk mk : Int) (l : Int) (has : Bool) (bs : List Int) : HN × List Int × Int × List Int × Int :=
  match revS mk bs with
  | none => (.zero, [], 0, [], 12)
  | some r =>
    if openB sk (wholeS l has r.low r.m.w) (r.x.take r.at_) (r.x.drop r.at_) = false then (.zero, [], 0, [], 25)
    else if andB (r.x.getD 0 0) (if r.m.s = 2 then 24 else 12) = 0 then (r.m, r.tok, wholeS l has r.low r.m.w, openS sk (wholeS l has r.low r.m.w) (r.x.take r.at_) (r.x.drop r.at_), 0)
    else (.zero, [], 0, [], 14)
end
section
set_option linter.unusedVariables false
set_option linter.unusedSimpArgs false
open Go.RowKit Go.ChangeShapes Go.WideShapes Go.Deep
def keysL (key : Int) : List Value := [.int .u64 (keyedS key [115, 101, 97, 108]), .int .u64 (keyedS key [109, 97, 115, 107])]
set_option maxRecDepth 100000 in
theorem of_keys (key : Int) (w : World) (k0 : 0 ≤ key) (k1 : key < 18446744073709551616) :
    Calls Try.prog 11 #[.int .u64 key] w fun e w' => e = .returned (.agg (keysL key).toArray) ∧ Below w.heap.size w w' := by
  have HD := Lib.hid (fun W => (show Calls Try.prog 29 #[.int .u64 key, .string { data := #[115, 101, 97, 108] }] W _ from derive_any key [115, 101, 97, 108] W (by intro x hx; simp at hx; omega) (by unfold maxLen; simp) k0 k1))
  have HE := Lib.hid (fun W => (show Calls Try.prog 29 #[.int .u64 key, .string { data := #[109, 97, 115, 107] }] W _ from derive_any key [109, 97, 115, 107] W (by intro x hx; simp at hx; omega) (by unfold maxLen; simp) k0 k1))
  unfold keysL
  obtain ⟨K8, hK8⟩ : ∃ x, keyedS key [115, 101, 97, 108] = x := ⟨_, rfl⟩
  rw [hK8] at HD ⊢
  obtain ⟨K9, hK9⟩ : ∃ x, keyedS key [109, 97, 115, 107] = x := ⟨_, rfl⟩
  rw [hK9] at HE ⊢
  clear hK8 hK9
  have hA0 : At (w.alloc (.cells #[.int .u64 0, .int .u64 0] 40)) w.heap.size 40 [.int .u64 0, .int .u64 0] := At.new w _ _
  have hb0 : Below w.heap.size w (w.alloc (.cells #[.int .u64 0, .int .u64 0] 40)) := (Below.refl _ _).alloc (Nat.le_refl _) _
  obtain ⟨w0, hw0⟩ : ∃ x, w.alloc (.cells #[.int .u64 0, .int .u64 0] 40) = x := ⟨_, rfl⟩
  rw [hw0] at hA0 hb0
  go_enter Try.func11, Try.ntmps11
  go_wp2_with fail
  refine (HD.out w0).mono ?_
  rintro e w1 ⟨rfl, hb1⟩
  have hA1 := hA0.below hb1 hA0.lt
  have hb1 := hb0.trans (hb1.mono hb0.size)
  clear hw0
  go_wp2_with fail
  refine (HE.out w1).mono ?_
  rintro e w2 ⟨rfl, hb2⟩
  have hA2 := hA1.below hb2 hA1.lt
  have hb2 := hb1.trans (hb2.mono hb1.size)
  have c0 := hA2.cell 0
  have c1 := hA2.cell 1
  have f0 := hA2.frozen 0
  have f1 := hA2.frozen 1
  simp only [List.getElem?_cons_zero, List.getElem?_cons_succ] at c0 c1
  have hA3 := (hA2.set 0 (.int .u64 K8)).set 1 (.int .u64 K9)
  have hb3 := (hb2.setCell (p := ⟨w.heap.size, 0, none⟩) (Nat.le_refl _) (.int .u64 K8)).setCell (p := ⟨w.heap.size, 1, none⟩) (Nat.le_refl _) (.int .u64 K9)
  have HX := Lib.hid (And.intro hA3 hb3)
  clear hA0 hA1 hA2 hA3 hb0 hb1 hb2 hb3
  go_wp2_with fail
  refine bodyPost_ret (results_cell 2 40 (by rfl) _ 40 [.int .u64 K8, .int .u64 K9] _ (by rfl) HX.out.1 Try.underlying40 rfl (by kernel_rfl)) rfl ?_
  exact ⟨rfl, HX.out.2⟩
/-- A literal of bytes that a constant string made: its block is marked behind its last cell. -/
theorem Rd.litm (w : World) (t : TypeId) (bs : List Int) (hb : Byt bs) (cs : Array Value) (fr : Nat × Nat) (hcs : cs = (bs.map (Value.int .u8)).toArray) :
    Rd (w.alloc (.cells cs t fr)) (w.heap.size + 1) (some ⟨w.heap.size, 0, none⟩) bs.length bs := by
  subst hcs
  refine ⟨rfl, hb, fun hp => ⟨w.heap.size, 0, rfl, by omega, fun i hi => ?_⟩⟩
  have hg : (w.alloc (.cells (bs.map (Value.int .u8)).toArray t fr)).heap[w.heap.size]? = some (.cells (bs.map (Value.int .u8)).toArray t fr) := by
    show (w.heap.push _)[w.heap.size]? = _
    simp
  rw [cell_of_row _ _ _ _ _ fr hg, Nat.zero_add]
  simp [List.getD_eq_getElem?_getD, List.getElem?_eq_getElem hi]
end
end Go.Proofs.Ytehdilgnlhhjdaa
