/-
  What Bytes and Number of package mix and of the document's own (narthexref7) answer; there and back.
-/
import Derived.Test.YtehdilgnlhhjdaaMq5
import Derived.Test.YtehdilgnlhhjdaaMq0
import Derived.Test.YtehdilgnlhhjdaaMq3
import Derived.Lib.ConvBytes
import Derived.Test.YtehdilgnlhhjdaaMq4
import Derived.Deep.AppendLies
namespace Go.Proofs.Ytehdilgnlhhjdaa
section
set_option linter.unusedVariables false
open Go.RowKit
def b8 (n : Int) : N8 := N8.of (beS 8 n)
theorem b8_l (n : Int) : (b8 n).l = beS 8 n := N8.l_of _ (beS_len 8 n)
theorem b8_byt (n : Int) : Byt (b8 n).l := by rw [b8_l]; exact beS_byt 8 n
/-- The first k bytes of n, and zeros. -/
def rowB (n : Int) (k : Nat) : List Value := ((beS 8 n).take k ++ List.replicate (8 - k) 0).map (Value.int .u8)
theorem rowB_set (n : Int) (k : Nat) (hk : k < 8) : (rowB n k).set k (.int .u8 (byteS 8 n k)) = rowB n (k + 1) := by
  have h : k = 0 ∨ k = 1 ∨ k = 2 ∨ k = 3 ∨ k = 4 ∨ k = 5 ∨ k = 6 ∨ k = 7 := by omega
  unfold rowB
  rw [show beS 8 n = [byteS 8 n 0, byteS 8 n 1, byteS 8 n 2, byteS 8 n 3, byteS 8 n 4, byteS 8 n 5, byteS 8 n 6, byteS 8 n 7] from rfl]
  rcases h with rfl | rfl | rfl | rfl | rfl | rfl | rfl | rfl <;> rfl
theorem rowB_full (n : Int) : rowB n 8 = (b8 n).l.map (Value.int .u8) := by
  rw [b8_l]
  unfold rowB
  rw [List.take_of_length_le (by rw [beS_len]; omega)]
  simp
theorem rowB_cell (n : Int) (k : Nat) (hk : k < 8) : (rowB n k)[k]? = some (.int .u8 0) := by
  have h : k = 0 ∨ k = 1 ∨ k = 2 ∨ k = 3 ∨ k = 4 ∨ k = 5 ∨ k = 6 ∨ k = 7 := by omega
  unfold rowB
  rw [show beS 8 n = [byteS 8 n 0, byteS 8 n 1, byteS 8 n 2, byteS 8 n 3, byteS 8 n 4, byteS 8 n 5, byteS 8 n 6, byteS 8 n 7] from rfl]
  rcases h with rfl | rfl | rfl | rfl | rfl | rfl | rfl | rfl <;> rfl
theorem byteS_at (n : Int) (k : Nat) : n / 2 ^ (56 - 8 * k) % 256 = byteS 8 n k := by
  unfold byteS
  rw [show 8 * (8 - 1 - k) = 56 - 8 * k by omega]
set_option maxRecDepth 100000 in
set_option maxHeartbeats 1000000 in
theorem mbytes_any (n : Int) (w : World) (h0 : 0 ≤ n) (h1 : n < 18446744073709551616) :
    Calls Try.prog 88 #[.int .u64 n] w fun e w' => e = .returned (b8 n).v ∧ Below w.heap.size w w' := by
  have hA0 : At (w.alloc (.cells (rowB n 0).toArray 26)) w.heap.size 26 (rowB n 0) := At.new w _ _
  have hB0 : Below w.heap.size w (w.alloc (.cells (rowB n 0).toArray 26)) := (Below.refl _ _).alloc (Nat.le_refl _) _
  have hA1 : At ((w.alloc (.cells (rowB n 0).toArray 26)).alloc (.cells (rowB n 0).toArray 26)) (w.heap.size + 1) 26 (rowB n 0) := At.new_ _ _ _ (by simp)
  have HI := Lib.hid (And.intro (hB0.alloc (by simp) (.cells (rowB n 0).toArray 26)) (And.intro (hA0.alloc (.cells (rowB n 0).toArray 26)) hA1))
  clear hA0 hB0 hA1
  go_enter Try.func88, Try.ntmps88
  go_wp2_with fail
  go_loopw [5] (fun i wr => ∃ k : Nat, k ≤ 8 ∧ i = .int .i64 k ∧ Hid (Below w.heap.size w wr ∧ At wr w.heap.size 26 (rowB n 0) ∧ At wr (w.heap.size + 1) 26 (rowB n k))) (fun i _ => 8 - (intOf i).toNat)
  case atStart => exact ⟨0, by omega, rfl, HI⟩
  case round =>
    obtain ⟨k, hk, rfl, hst⟩ := hrel
    obtain ⟨wo, rfl⟩ : ∃ wo : World, wo = wr := ⟨_, rfl⟩
    have hB := hst.out.1
    have hR := hst.out.2.1
    have hX := hst.out.2.2
    clear hst HI
    by_cases hlt : k < 8
    · have hkI : (k : Int) < 8 := by omega
      have hc : wo.cell? ⟨w.heap.size + 1, k, none⟩ = some (.int .u8 0) := by rw [hX.cell]; exact rowB_cell n k hlt
      have hf := hX.frozen k
      have hs := hX.set k (.int .u8 (byteS 8 n k))
      rw [rowB_set n k hlt] at hs
      have hR2 := hR.set_other (q := ⟨w.heap.size + 1, k, none⟩) (by show w.heap.size + 1 ≠ w.heap.size; omega) (.int .u8 (byteS 8 n k))
      have hB2 := hB.setCell (p := ⟨w.heap.size + 1, k, none⟩) (by show w.heap.size ≤ w.heap.size + 1; omega) (.int .u8 (byteS 8 n k))
      have HN := Lib.hid (And.intro hB2 (And.intro hR2 hs))
      clear hB2 hR2 hs hX hR hB
      go_wp2_with fail
      go_roundw
      case rel => exact ⟨k + 1, by omega, by go_num, by rw [byteS_at]; exact HN⟩
      case measure => simp [intOf]; omega
    · obtain rfl : k = 8 := by omega
      rw [rowB_full] at hX
      have hg0 := hR.lt
      go_wp2_with (first | ((with_reducible refine at_ld8 ?_); refine ld_8g (by rfl) (w.heap.size + 1) 0 (b8 n) (by rfl) hX.rangeAt ?_) | ((with_reducible refine at_st8 ?_); refine st_8 w.heap.size 26 (rowB n 0) (b8 n) (by rfl) (by rfl) hR rfl ?_; intro w9 hA9 hk9) | fail)
      refine bodyPost_ret (results_cell 2 26 (by rfl) _ 26 _ _ (by rfl) hA9 Try.underlying26 rfl a8_info) rfl ?_
      exact ⟨rfl, hk9.below hB (by omega) (fun j hj => by omega)⟩
end
section
set_option linter.unusedVariables false
set_option linter.unusedSimpArgs false
open Go.RowKit
theorem nums_size (bs : List Int) : (strOfNums bs).size = bs.length := by simp [strOfNums, ByteArray.size]
theorem nums_at (bs : List Int) (hb : Byt bs) (j : Nat) : (((strOfNums bs).data.toList.getD j 0).toNat : Int) = bs.getD j 0 := by
  unfold strOfNums
  simp only [List.getD_eq_getElem?_getD, List.getElem?_map]
  rcases hj : bs[j]? with _ | x
  · simp
  · have := hb x (List.mem_of_getElem? hj)
    simp only [Option.map_some, Option.getD_some, UInt8.toNat_ofNat']
    omega
/-- What such a conversion makes. -/
theorem run_str_bytes {P : Program} (w : World) (src dst e : TypeId) (bs : List Int) (hb : Byt bs) (hl : bs.length ≤ maxLen) {u : TypeDesc} (hs : P.underlying src = some u) (hd : P.underlying dst = some (.slice e)) (he : P.underlying e = some (.int .u8)) :
    ∃ c w', (convert src dst (.string (strOfNums bs))).run P w = .ok (.slice (some ⟨w.heap.size, 0, none⟩) bs.length c) w' ∧ bs.length ≤ c ∧ c ≤ maxLen ∧ Rd w' w'.heap.size (some ⟨w.heap.size, 0, none⟩) bs.length bs ∧ Below w.heap.size w w' ∧ w'.heap.size = w.heap.size + 1 := by
  have h := Lib.run_convert_string_bytes (P := P) w src dst e (strOfNums bs) hs hd he
  rw [nums_size] at h
  have hsz := Lib.bytesWorld_size w e (strOfNums bs)
  refine ⟨_, _, h, grownCap_ge _ _ _ _, grownCap_le_maxLen _ _ _ _ hl, ⟨rfl, hb, fun hp => ⟨w.heap.size, 0, rfl, by omega, fun i hi => ?_⟩⟩, ⟨rfl, rfl, rfl, by omega, fun k hk => Lib.bytesWorld_at_old w e _ k hk⟩, hsz⟩
  rw [Nat.zero_add, Lib.bytesWorld_cell w e _ i (by rw [nums_size]; exact hi), nums_at bs hb]
theorem wpList_str_bytes {P : Program} {w : World} {ops : Array Oper} {rest : List Oper} {o : Oper} {a : Act} {Q : Exit → Act → World → Prop} (hgd : Region.wanted o (yielded ops a.tmps) = true) (src dst e : TypeId) (x : Operand) (ho : o.op = .convert src dst x)
    (bs : List Int) (hb : Byt bs) (hl : bs.length ≤ maxLen) {u : TypeDesc} (hs : P.underlying src = some u) (hd : P.underlying dst = some (.slice e)) (he : P.underlying e = some (.int .u8)) (hx : a.eval x = .string (strOfNums bs))
    (h : ∀ w' c, bs.length ≤ c → c ≤ maxLen → Rd w' w'.heap.size (some ⟨w.heap.size, 0, none⟩) bs.length bs → Below w.heap.size w w' → w'.heap.size = w.heap.size + 1 → wpList P ops Q rest (a.put o.dst (.slice (some ⟨w.heap.size, 0, none⟩) bs.length c)) w') : wpList P ops Q (o :: rest) a w := by
  refine wpList_step fun K hK => ?_
  rw [if_pos hgd]
  obtain ⟨c, w', h1, h2, h3, h4, h5, h6⟩ := run_str_bytes (P := P) w src dst e bs hb hl hs hd he
  unfold Oper.wp
  simp [execOp, ho, hx, h1, Result.andThen]
  exact hK _ _ (h w' c h2 h3 h4 h5 h6)
end
section
set_option linter.unusedVariables false
set_option linter.unusedSimpArgs false
open Go.RowKit
theorem InD.below_ {w w' : World} {P : Nat → Prop} {d : Sl} {ds : List Int} (h : InD w P d ds) (k : Below w.heap.size w w') : InD w' P d ds := h.kept (Kept.of_below k (fun _ => False)) (fun _ _ h => h)
theorem At.of_below {w w' : World} {p : Nat} {T : TypeId} {l : List Value} (h : At w p T l) (k : Below w.heap.size w w') : At w' p T l := h.below k h.lt
theorem Own.place {w : World} {base : Nat} {e : TypeId} {v : Value} {bs : List Int} (h : Own w base e v bs) (hp : 0 < bs.length) :
    ∃ g c l, v = .slice (some ⟨g, 0, none⟩) bs.length c ∧ At w g e l ∧ l.length = c ∧ l.take bs.length = bs.map (Value.int .u8) ∧ base ≤ g ∧ bs.length ≤ c ∧ c ≤ maxLen := by
  rcases h.1.2 with ⟨_, h0⟩ | ⟨g, cap, cur, hv, hbg, hg, hnc, hcm, hcs, htake⟩
  · omega
  · exact ⟨g, cap, cur.toList, hv, hg, by simp; omega, by simpa using htake, hbg, hnc, hcm⟩
theorem place_cell {w : World} {g : Nat} {e : TypeId} {l : List Value} {bs : List Int} (h : At w g e l) (ht : l.take bs.length = bs.map (Value.int .u8)) (i : Nat) (x : Int) (hx : bs[i]? = some x) : w.cell? ⟨g, i, none⟩ = some (.int .u8 x) := by
  rw [h.cell]
  have hi : i < bs.length := (List.getElem?_eq_some_iff.1 hx).1
  rw [← List.getElem?_take_of_lt hi, ht, List.getElem?_map, hx]
  rfl
theorem place_set {w : World} {g base : Nat} {e : TypeId} {l : List Value} {bs : List Int} {c : Nat} (h : At w g e l) (hl : l.length = c) (ht : l.take bs.length = bs.map (Value.int .u8)) (hb : Byt bs) (hbg : base ≤ g) (hn : bs.length ≤ c) (hc : c ≤ maxLen) (i : Nat) (y : Int) (hy : 0 ≤ y ∧ y < 256) :
    Own (w.setCell ⟨g, i, none⟩ (.int .u8 y)) base e (.slice (some ⟨g, 0, none⟩) bs.length c) (bs.set i y) := by
  refine Own.of_block ?_ (by simp) (h.set i (.int .u8 y)) hbg hn hc (by simp [hl]) ?_
  · intro z hz
    rcases List.mem_or_eq_of_mem_set hz with hz | hz
    · exact hb z hz
    · rw [hz]; exact hy
  · show (l.set i (.int .u8 y)).take bs.length = _
    rw [List.take_set, ht, List.map_set]
theorem InRow.inDl {w : World} {A : Option Addr} {n c : Nat} {bs : List Int} (h : InRow w A n c bs) : InD w (fun b => b < w.heap.size) ⟨A, n, c⟩ bs :=
  ⟨⟨h.1, fun b off hn' e => by obtain ⟨b', off', e', hb', _⟩ := h.1.2.2 hn'; simp only at e; rw [e] at e'; injection e' with e'; injection e' with e1 e2; omega⟩, h.2.1, h.2.2.1, h.2.2.2⟩
end
section
set_option linter.unusedVariables false
set_option linter.unusedSimpArgs false
open Go.RowKit
def xorB (a b : Int) : Int := bits BinOp.xor IntKind.u8 a b
theorem xorB_bd (a b : Int) : 0 ≤ xorB a b ∧ xorB a b < 256 := u8_bits_bd _ _ _
/-- Block i of the row that key and n make. -/
def blkS (key n : Int) (i : Nat) : N8 := b8 (keyedS key (beS 8 n ++ beS 8 i))
def rowX (key n : Int) (i : Nat) : Int := (blkS key n (i / 8)).l.getD (i % 8) 0
theorem rowX_bd (key n : Int) (i : Nat) : 0 ≤ rowX key n i ∧ rowX key n i < 256 := (b8_byt _).getD _
def turnS (key n : Int) (bs : List Int) : List Int := bs.mapIdx fun i x => xorB x (rowX key n i)
theorem turnS_len (key n : Int) (bs : List Int) : (turnS key n bs).length = bs.length := by simp [turnS]
theorem turnS_at (key n : Int) (bs : List Int) (i : Nat) (hi : i < bs.length) : (turnS key n bs)[i]? = some (xorB (bs.getD i 0) (rowX key n i)) := by
  simp [turnS, List.getElem?_mapIdx, List.getElem?_eq_getElem hi, List.getD_eq_getElem?_getD]
theorem turnS_step (key n : Int) (bs : List Int) (k : Nat) (hk : k < bs.length) : (turnS key n bs).take (k + 1) = (turnS key n bs).take k ++ [xorB (bs.getD k 0) (rowX key n k)] := by
  have h := turnS_at key n bs k hk
  rw [List.take_add_one, h]
  rfl
theorem xorB_xorB (a b : Int) (h0 : 0 ≤ a) (h1 : a < 256) (k0 : 0 ≤ b) (k1 : b < 256) : xorB (xorB a b) b = a := by
  have hb := xorB_bd a b
  unfold xorB at *
  rw [u8_xor _ _ hb.1 hb.2 k0 k1, u8_xor _ _ h0 h1 k0 k1, Int.toNat_natCast, Nat.xor_assoc, Nat.xor_self, Nat.xor_zero]
  omega
theorem turnS_turnS (key n : Int) (bs : List Int) (hb : Byt bs) : turnS key n (turnS key n bs) = bs := by
  apply List.ext_getElem?
  intro i
  rcases Nat.lt_or_ge i bs.length with h | h
  · rw [turnS_at _ _ _ _ (by rw [turnS_len]; exact h), List.getD_eq_getElem?_getD, turnS_at key n bs i h, List.getElem?_eq_getElem h]
    have h1 := hb.getD i
    have h2 := rowX_bd key n i
    simp only [Option.getD_some]
    rw [xorB_xorB _ _ h1.1 h1.2 h2.1 h2.2, List.getD_eq_getElem?_getD, List.getElem?_eq_getElem h]
    rfl
  · rw [List.getElem?_eq_none (by rw [turnS_len, turnS_len]; exact h), List.getElem?_eq_none h]
def tagKey (key : Int) : Int := keyedS key [116, 97, 103]
theorem keyedS_bd (key : Int) (bs : List Int) : 0 ≤ keyedS key bs ∧ keyedS key bs < 18446744073709551616 := endS_bd _
/-- The tag. -/
def tagS (key n : Int) (head hidden : List Int) : N8 := b8 (keyedS (tagKey key) (beS 8 n ++ beS 8 head.length ++ head ++ hidden))
theorem tagS_byt (key n : Int) (head hidden : List Int) : Byt (tagS key n head hidden).l := b8_byt _
def sealS (key n : Int) (head body : List Int) : List Int := turnS key n body ++ (tagS key n head (turnS key n body)).l
theorem sealS_len (key n : Int) (head body : List Int) : (sealS key n head body).length = body.length + 8 := by
  unfold sealS; rw [List.length_append, turnS_len]; rfl
def openB (key n : Int) (head sealed : List Int) : Bool := decide (8 ≤ sealed.length) && n8B (N8.of (sealed.drop (sealed.length - 8))) (tagS key n head (sealed.take (sealed.length - 8)))
def openS (key n : Int) (head sealed : List Int) : List Int := if openB key n head sealed then turnS key n (sealed.take (sealed.length - 8)) else []
theorem open_seal (key n : Int) (head body : List Int) (hb : Byt body) : openB key n head (sealS key n head body) = true ∧ openS key n head (sealS key n head body) = body := by
  have h1 : (sealS key n head body).take ((sealS key n head body).length - 8) = turnS key n body := by
    rw [sealS_len]; unfold sealS
    rw [List.take_append_of_le_length (by rw [turnS_len]; omega), List.take_of_length_le (by rw [turnS_len]; omega)]
  have h2 : (sealS key n head body).drop ((sealS key n head body).length - 8) = (tagS key n head (turnS key n body)).l := by
    rw [sealS_len]; unfold sealS
    rw [List.drop_append, List.drop_eq_nil_of_le (by rw [turnS_len]; omega), turnS_len, Nat.add_sub_cancel, Nat.sub_self]; rfl
  have h3 : openB key n head (sealS key n head body) = true := by
    unfold openB
    rw [h1, h2, sealS_len, N8.of_l, n8B_refl]
    simp
  refine ⟨h3, ?_⟩
  unfold openS
  rw [if_pos h3, h1, turnS_turnS _ _ _ hb]
set_option maxRecDepth 100000 in
theorem derive_any (key : Int) (bs : List Int) (w : World) (hb : Byt bs) (hl : bs.length ≤ maxLen) (k0 : 0 ≤ key) (k1 : key < 18446744073709551616) :
    Calls Try.prog 29 #[.int .u64 key, .string (strOfNums bs)] w fun e w' => e = .returned (.int .u64 (keyedS key bs)) ∧ Below w.heap.size w w' := by
  obtain ⟨T, hT⟩ : ∃ x, strOfNums bs = x := ⟨_, rfl⟩
  rw [hT]
  go_enter Try.func29, Try.ntmps29
  go_wp2_with (first | (refine wpList_str_bytes (by rfl) 9 28 5 (.tmp 6) rfl bs hb hl Try.underlying9 Try.underlying28 Try.underlying5 (by rw [hT]; rfl) ?_; intro w1 c hc1 hc2 hr1 hb1 hs1) | (go_at_call 55; refine (keyed_any key _ _ c bs w1 _ hr1 hc1 hc2 k0 k1).mono ?_; rintro e w' ⟨rfl, rfl⟩))
  go_ret
  exact ⟨rfl, hb1⟩
end
section
set_option linter.unusedVariables false
set_option linter.unusedSimpArgs false
open Go.RowKit
def slV (d : Sl) : Value := .slice d.A d.n d.c
structure RowsAt (W : World) (base : Nat) (v : Value) (L : List (Sl × List Int)) : Prop where
  own : W.ownsRow base 28 1 v L.length (L.map fun r => slV r.1)
  rows : ∀ r ∈ L, InD W (fun b => v.ownBlock ≠ some b) r.1 r.2
theorem ownsRow_below {W W' : World} {base : Nat} {e : TypeId} {v : Value} {n : Nat} {xs : List Value} (h : W.ownsRow base e 1 v n xs) (hb : Below W.heap.size W W') : W'.ownsRow base e 1 v n xs := by
  refine ⟨h.1, ?_⟩
  rcases h.2 with h2 | ⟨g, cap, cur, h1, h2, hg, h3⟩
  · exact .inl h2
  · exact .inr ⟨g, cap, cur, h1, h2, by rw [hb.block g (Array.getElem?_eq_some_iff.1 hg).1]; exact hg, h3⟩
theorem RowsAt.below {W W' : World} {base : Nat} {v : Value} {L : List (Sl × List Int)} (h : RowsAt W base v L) (hb : Below W.heap.size W W') : RowsAt W' base v L :=
  ⟨ownsRow_below h.own hb, fun r hr => (h.rows r hr).below_ hb⟩
theorem RowsAt.grown {W W' : World} {base g cap H : Nat} {v : Value} {L M : List (Sl × List Int)} (h : RowsAt W base v L) (hM : ∀ r ∈ M, InD W (fun b => v.ownBlock ≠ some b) r.1 r.2) (hH : W.heap.size = H)
    (ho : W'.ownsRow base 28 1 (.slice (some ⟨g, 0, none⟩) (L.length + M.length) cap) (L.length + M.length) (L.map (fun r => slV r.1) ++ M.map (fun r => slV r.1))) (hg : W.grownBy W' v.ownBlock) (hor : v.ownBlock = some g ∨ g = H) :
    RowsAt W' base (.slice (some ⟨g, 0, none⟩) (L.length + M.length) cap) (L ++ M) := by
  refine ⟨by rw [List.map_append, List.length_append]; exact ho, fun r hr => ?_⟩
  have h0 : InD W (fun b => v.ownBlock ≠ some b) r.1 r.2 := by
    rcases List.mem_append.1 hr with h1 | h1
    · exact h.rows r h1
    · exact hM r h1
  have h1 : InD W (fun b => v.ownBlock ≠ some b ∧ b < W.heap.size) r.1 r.2 := h0.mono (fun b hb hP => ⟨hP, hb⟩)
  have hk : Kept (fun j => v.ownBlock = some j) W W' := Kept.of_grown hg (fun k hk => .inl hk)
  refine (h1.kept hk (fun b hb e => hb.1 e)).mono (fun b _ hb e => ?_)
  simp [Value.ownBlock] at e
  subst e
  rcases hor with h2 | h2
  · exact hb.1 h2
  · omega
theorem RowsAt.cell {W : World} {base : Nat} {v : Value} {L : List (Sl × List Int)} (h : RowsAt W base v L) (hp : 0 < L.length) : ∃ g cap, v = .slice (some ⟨g, 0, none⟩) L.length cap ∧ g < W.heap.size ∧ L.length ≤ cap ∧ cap ≤ maxLen ∧ ∀ j r, L[j]? = some r → W.cell? ⟨g, j, none⟩ = some (slV r.1) := by
  rcases h.own.2 with ⟨_, h0⟩ | ⟨g, cap, cur, hv, hbg, hg, hnc, hcm, hcs, ht⟩
  · omega
  · refine ⟨g, cap, hv, (Array.getElem?_eq_some_iff.1 hg).1, hnc, hcm, fun j r hj => ?_⟩
    have hA : At W g 28 cur.toList := by simpa [At] using hg
    have hj' : j < L.length := (List.getElem?_eq_some_iff.1 hj).1
    rw [hA.cell, ← List.getElem?_take_of_lt (show j < L.length * 1 by omega), ht, List.getElem?_map, hj]
    rfl
theorem ownsRow_base {W : World} {base base' : Nat} {e : TypeId} {v : Value} {n : Nat} {xs : List Value} (h : W.ownsRow base e 1 v n xs) (hb : base' ≤ base) : W.ownsRow base' e 1 v n xs := by
  refine ⟨h.1, ?_⟩
  rcases h.2 with h2 | ⟨g, cap, cur, h1, h2, h3⟩
  · exact .inl h2
  · exact .inr ⟨g, cap, cur, h1, by omega, h3⟩
theorem RowsAt.base_ {W : World} {base base' : Nat} {v : Value} {L : List (Sl × List Int)} (h : RowsAt W base v L) (hb : base' ≤ base) : RowsAt W base' v L := ⟨ownsRow_base h.own hb, h.rows⟩
section
variable {w : World} {ops : Array Oper} {rest : List Oper} {a : Act} {Q : Exit → Act → World → Prop}
end
end
end Go.Proofs.Ytehdilgnlhhjdaa
