/-
  The conversion of a string to bytes, in the words of the walks: a new row of the string's bytes.
-/
import Derived.Test.YtkgeeoogmkpjhaaBytes
import Derived.Test.YtkgeeoogmkpjhaaStrs
import Derived.Lib.ConvBytes
namespace Go.Proofs.Ytkgeeoogmkpjhaa
set_option linter.unusedVariables false
set_option linter.unusedSimpArgs false
open Go.RowKit
theorem nums_size (bs : List Int) : (strOfNums bs).size = bs.length := by simp [strOfNums, ByteArray.size]
theorem nums_at (bs : List Int) (hb : Byt bs) (j : Nat) : (((strOfNums bs).data.toList.getD j 0).toNat : Int) = bs.getD j 0 := by
  unfold strOfNums
  simp only [List.getD_eq_getElem?_getD, List.getElem?_map]
  rcases hj : bs[j]? with _ | x
  · simp
  · have := hb x (List.mem_of_getElem? hj)
    simp only [Option.map_some, Option.getD_some, UInt8.toNat_ofNat']
    omega
/-- What such a conversion makes. -/
theorem run_str_bytes {P : Program} (w : World) (src dst e : TypeId) (bs : List Int) (hb : Byt bs) (hl : bs.length ≤ maxLen) {u : TypeDesc} (hs : P.underlying src = some u) (hd : P.underlying dst = some (.slice e)) (he : P.underlying e = some (.int .u8)) :
    ∃ c w', (convert src dst (.string (strOfNums bs))).run P w = .ok (.slice (some ⟨w.heap.size, 0, none⟩) bs.length c) w' ∧ bs.length ≤ c ∧ c ≤ maxLen ∧ Rd w' w'.heap.size (some ⟨w.heap.size, 0, none⟩) bs.length bs ∧ Below w.heap.size w w' ∧ w'.heap.size = w.heap.size + 1 := by
  have h := Lib.run_convert_string_bytes (P := P) w src dst e (strOfNums bs) hs hd he
  rw [nums_size] at h
  have hsz := Lib.bytesWorld_size w e (strOfNums bs)
  refine ⟨_, _, h, grownCap_ge _ _ _ _, grownCap_le_maxLen _ _ _ _ hl, ⟨rfl, hb, fun hp => ⟨w.heap.size, 0, rfl, by omega, fun i hi => ?_⟩⟩, ⟨rfl, rfl, rfl, by omega, fun k hk => Lib.bytesWorld_at_old w e _ k hk⟩, hsz⟩
  rw [Nat.zero_add, Lib.bytesWorld_cell w e _ i (by rw [nums_size]; exact hi), nums_at bs hb]
theorem wpList_str_bytes {P : Program} {w : World} {ops : Array Oper} {rest : List Oper} {o : Oper} {a : Act} {Q : Exit → Act → World → Prop} (hgd : Region.wanted o (yielded ops a.tmps) = true) (src dst e : TypeId) (x : Operand) (ho : o.op = .convert src dst x)
    (bs : List Int) (hb : Byt bs) (hl : bs.length ≤ maxLen) {u : TypeDesc} (hs : P.underlying src = some u) (hd : P.underlying dst = some (.slice e)) (he : P.underlying e = some (.int .u8)) (hx : a.eval x = .string (strOfNums bs))
    (h : ∀ w' c, bs.length ≤ c → c ≤ maxLen → Rd w' w'.heap.size (some ⟨w.heap.size, 0, none⟩) bs.length bs → Below w.heap.size w w' → w'.heap.size = w.heap.size + 1 → wpList P ops Q rest (a.put o.dst (.slice (some ⟨w.heap.size, 0, none⟩) bs.length c)) w') : wpList P ops Q (o :: rest) a w := by
  refine wpList_step fun K hK => ?_
  rw [if_pos hgd]
  obtain ⟨c, w', h1, h2, h3, h4, h5, h6⟩ := run_str_bytes (P := P) w src dst e bs hb hl hs hd he
  unfold Oper.wp
  simp [execOp, ho, hx, h1, Result.andThen]
  exact hK _ _ (h w' c h2 h3 h4 h5 h6)
end Go.Proofs.Ytkgeeoogmkpjhaa
