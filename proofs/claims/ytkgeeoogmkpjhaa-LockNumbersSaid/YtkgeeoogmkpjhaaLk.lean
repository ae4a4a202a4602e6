/-
  What package lock and the document's own (narthexref8) answer, as lists of bytes; Derive, Next, Of.
-/
import Derived.Test.YtkgeeoogmkpjhaaMb
import Derived.Test.YtkgeeoogmkpjhaaStb
import Derived.Test.YtkgeeoogmkpjhaaPlace
namespace Go.Proofs.Ytkgeeoogmkpjhaa
set_option linter.unusedVariables false
set_option linter.unusedSimpArgs false
open Go.RowKit
def xorB (a b : Int) : Int := bits BinOp.xor IntKind.u8 a b
theorem xorB_bd (a b : Int) : 0 ≤ xorB a b ∧ xorB a b < 256 := u8_bits_bd _ _ _
/-- Block i of the row that key and n make. -/
def blkS (key n : Int) (i : Nat) : N8 := b8 (keyedS key (beS 8 n ++ beS 8 i))
def rowX (key n : Int) (i : Nat) : Int := (blkS key n (i / 8)).l.getD (i % 8) 0
theorem rowX_bd (key n : Int) (i : Nat) : 0 ≤ rowX key n i ∧ rowX key n i < 256 := (b8_byt _).getD _
def turnS (key n : Int) (bs : List Int) : List Int := bs.mapIdx fun i x => xorB x (rowX key n i)
theorem turnS_len (key n : Int) (bs : List Int) : (turnS key n bs).length = bs.length := by simp [turnS]
theorem turnS_at (key n : Int) (bs : List Int) (i : Nat) (hi : i < bs.length) : (turnS key n bs)[i]? = some (xorB (bs.getD i 0) (rowX key n i)) := by
  simp [turnS, List.getElem?_mapIdx, List.getElem?_eq_getElem hi, List.getD_eq_getElem?_getD]
theorem turnS_byt (key n : Int) (bs : List Int) : Byt (turnS key n bs) := by
  intro x hx
  simp only [turnS, List.mem_mapIdx] at hx
  obtain ⟨i, h, rfl⟩ := hx
  exact xorB_bd _ _
theorem turnS_take (key n : Int) (bs : List Int) (k : Nat) : turnS key n (bs.take k) = (turnS key n bs).take k := by
  apply List.ext_getElem?
  intro i
  unfold turnS
  rw [List.getElem?_mapIdx]
  rcases Nat.lt_or_ge i k with h | h
  · rw [List.getElem?_take_of_lt h, List.getElem?_take_of_lt h, List.getElem?_mapIdx]
  · rw [List.getElem?_take_eq_none h, List.getElem?_take_eq_none h]; rfl
theorem turnS_step (key n : Int) (bs : List Int) (k : Nat) (hk : k < bs.length) : (turnS key n bs).take (k + 1) = (turnS key n bs).take k ++ [xorB (bs.getD k 0) (rowX key n k)] := by
  have h := turnS_at key n bs k hk
  rw [List.take_add_one, h]
  rfl
theorem xorB_xorB (a b : Int) (h0 : 0 ≤ a) (h1 : a < 256) (k0 : 0 ≤ b) (k1 : b < 256) : xorB (xorB a b) b = a := by
  have hb := xorB_bd a b
  unfold xorB at *
  rw [u8_xor _ _ hb.1 hb.2 k0 k1, u8_xor _ _ h0 h1 k0 k1, Int.toNat_natCast, Nat.xor_assoc, Nat.xor_self, Nat.xor_zero]
  omega
theorem turnS_turnS (key n : Int) (bs : List Int) (hb : Byt bs) : turnS key n (turnS key n bs) = bs := by
  apply List.ext_getElem?
  intro i
  rcases Nat.lt_or_ge i bs.length with h | h
  · rw [turnS_at _ _ _ _ (by rw [turnS_len]; exact h), List.getD_eq_getElem?_getD, turnS_at key n bs i h, List.getElem?_eq_getElem h]
    have h1 := hb.getD i
    have h2 := rowX_bd key n i
    simp only [Option.getD_some]
    rw [xorB_xorB _ _ h1.1 h1.2 h2.1 h2.2, List.getD_eq_getElem?_getD, List.getElem?_eq_getElem h]
    rfl
  · rw [List.getElem?_eq_none (by rw [turnS_len, turnS_len]; exact h), List.getElem?_eq_none h]
def tagKey (key : Int) : Int := keyedS key [116, 97, 103]
theorem keyedS_bd (key : Int) (bs : List Int) : 0 ≤ keyedS key bs ∧ keyedS key bs < 18446744073709551616 := endS_bd _
/-- The tag. -/
def tagS (key n : Int) (head hidden : List Int) : N8 := b8 (keyedS (tagKey key) (beS 8 n ++ beS 8 head.length ++ head ++ hidden))
theorem tagS_byt (key n : Int) (head hidden : List Int) : Byt (tagS key n head hidden).l := b8_byt _
def sealS (key n : Int) (head body : List Int) : List Int := turnS key n body ++ (tagS key n head (turnS key n body)).l
theorem sealS_len (key n : Int) (head body : List Int) : (sealS key n head body).length = body.length + 8 := by
  unfold sealS; rw [List.length_append, turnS_len]; rfl
theorem sealS_byt (key n : Int) (head body : List Int) : Byt (sealS key n head body) := (turnS_byt _ _ _).app (tagS_byt _ _ _ _)
def openB (key n : Int) (head sealed : List Int) : Bool := decide (8 ≤ sealed.length) && n8B (N8.of (sealed.drop (sealed.length - 8))) (tagS key n head (sealed.take (sealed.length - 8)))
def openS (key n : Int) (head sealed : List Int) : List Int := if openB key n head sealed then turnS key n (sealed.take (sealed.length - 8)) else []
theorem openS_byt (key n : Int) (head sealed : List Int) : Byt (openS key n head sealed) := by
  unfold openS; split
  · exact turnS_byt _ _ _
  · exact Byt.nil
theorem open_seal (key n : Int) (head body : List Int) (hb : Byt body) : openB key n head (sealS key n head body) = true ∧ openS key n head (sealS key n head body) = body := by
  have h1 : (sealS key n head body).take ((sealS key n head body).length - 8) = turnS key n body := by
    rw [sealS_len]; unfold sealS
    rw [List.take_append_of_le_length (by rw [turnS_len]; omega), List.take_of_length_le (by rw [turnS_len]; omega)]
  have h2 : (sealS key n head body).drop ((sealS key n head body).length - 8) = (tagS key n head (turnS key n body)).l := by
    rw [sealS_len]; unfold sealS
    rw [List.drop_append, List.drop_eq_nil_of_le (by rw [turnS_len]; omega), turnS_len, Nat.add_sub_cancel, Nat.sub_self]; rfl
  have h3 : openB key n head (sealS key n head body) = true := by
    unfold openB
    rw [h1, h2, sealS_len, N8.of_l, n8B_refl]
    simp
  refine ⟨h3, ?_⟩
  unfold openS
  rw [if_pos h3, h1, turnS_turnS _ _ _ hb]
set_option maxRecDepth 100000 in
theorem derive_any (key : Int) (bs : List Int) (w : World) (hb : Byt bs) (hl : bs.length ≤ maxLen) (k0 : 0 ≤ key) (k1 : key < 18446744073709551616) :
    Calls Try.prog 20 #[.int .u64 key, .string (strOfNums bs)] w fun e w' => e = .returned (.int .u64 (keyedS key bs)) ∧ Below w.heap.size w w' := by
  obtain ⟨T, hT⟩ : ∃ x, strOfNums bs = x := ⟨_, rfl⟩
  rw [hT]
  go_enter Try.func20, Try.ntmps20
  go_wp2_with (first | (refine wpList_str_bytes (by rfl) 9 22 5 (.tmp 6) rfl bs hb hl Try.underlying9 Try.underlying22 Try.underlying5 (by rw [hT]; rfl) ?_; intro w1 c hc1 hc2 hr1 hb1 hs1) | (go_at_call 27; refine (keyed_any key _ _ c bs w1 _ hr1 hc1 hc2 k0 k1).mono ?_; rintro e w' ⟨rfl, rfl⟩))
  go_ret
  exact ⟨rfl, hb1⟩
set_option maxRecDepth 100000 in
theorem rderive_any (key : Int) (bs : List Int) (w : World) (hb : Byt bs) (hl : bs.length ≤ maxLen) (k0 : 0 ≤ key) (k1 : key < 18446744073709551616) :
    Calls Try.prog 21 #[.int .u64 key, .string (strOfNums bs)] w fun e w' => e = .returned (.int .u64 (keyedS key bs)) ∧ Below w.heap.size w w' := by
  obtain ⟨T, hT⟩ : ∃ x, strOfNums bs = x := ⟨_, rfl⟩
  rw [hT]
  go_enter Try.func21, Try.ntmps21
  go_wp2_with (first | (refine wpList_str_bytes (by rfl) 9 22 5 (.tmp 6) rfl bs hb hl Try.underlying9 Try.underlying22 Try.underlying5 (by rw [hT]; rfl) ?_; intro w1 c hc1 hc2 hr1 hb1 hs1) | (go_at_call 29; refine (rkeyed_any key _ _ c bs w1 _ hr1 hc1 hc2 k0 k1).mono ?_; rintro e w' ⟨rfl, rfl⟩))
  go_ret
  exact ⟨rfl, hb1⟩
end Go.Proofs.Ytkgeeoogmkpjhaa
