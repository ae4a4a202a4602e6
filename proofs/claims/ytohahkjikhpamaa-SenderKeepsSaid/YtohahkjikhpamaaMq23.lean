/-
  A row of chapter 16's calls that came in, in the words of the walks.
-/
import Derived.Test.YtohahkjikhpamaaProg
import Derived.Test.YtohahkjikhpamaaMq0
import Derived.Test.YtohahkjikhpamaaMq13
import Derived.Test.YtohahkjikhpamaaMq1
import Derived.Deep.Slices
import Derived.ChangeSlices
import Derived.Test.YtohahkjikhpamaaMq17
import Derived.Test.YtohahkjikhpamaaMq20
import Derived.Test.YtohahkjikhpamaaMq18
namespace Go.Proofs.Ytohahkjikhpamaa
section
set_option linter.unusedVariables false
set_option linter.unusedSimpArgs false
open Go.RowKit Go.ChangeShapes Go.WideShapes Go.Deep
/-- A call: its numbers, its bytes; T: the cells of its frame that is drawn. -/
structure AskD where
  k : Int
  room : Int
  i : Int
  n : Nat
  A : Option Addr
  m : Nat
  c : Nat
  bs : List Int
  T : List Value
def I64 (x : Int) : Prop := -9223372036854775808 ≤ x ∧ x < 9223372036854775808
structure AskD.wf (d : AskD) : Prop where
  k : I64 d.k
  room : I64 d.room
  i : I64 d.i
  n : d.n < 18446744073709551616
  lc : d.m ≤ d.c
  cm : d.c ≤ maxLen
  nil : d.A = none → d.c = 0
  tl : d.T.length = 8
  t1 : d.T.all (·.oneCell') = true
def AskD.l (d : AskD) : List Value := [.int .i64 d.k, .int .i64 d.room, .int .i64 d.i, .int .u64 d.n, .slice d.A d.m d.c] ++ d.T
theorem AskD.wf.len {d : AskD} (h : d.wf) : d.l.length = 13 := by
  unfold AskD.l
  rw [List.length_append, h.tl]
  rfl
theorem AskD.wf.one {d : AskD} (h : d.wf) : d.l.all (·.oneCell') = true := by
  unfold AskD.l
  rw [List.all_append, h.t1]
  rfl
/-- A call stands at place o of block b; its bytes lie below block B. -/
structure AskAt (w : World) (B b o : Nat) (d : AskD) : Prop where
  at_ : w.rangeAt b o d.l
  rd : Rd w B d.A d.m d.bs
  wf : d.wf
theorem AskAt.below {w w' : World} {B b o : Nat} {d : AskD} (h : AskAt w B b o d) (hb : Below B w w') (hlt : b < B) : AskAt w' B b o d :=
  { h with
    at_ := fun j v hv => (hb.cell (p := ⟨b, _, none⟩) hlt).trans (h.at_ j v hv)
    rd := h.rd.below hb }
/-- A row of calls, all of it below block B. -/
def Asks (w : World) (B : Nat) (A : Option Addr) (n c : Nat) (L : List AskD) : Prop :=
  L.length = n ∧ n ≤ c ∧ c ≤ maxLen ∧ (A = none → c = 0) ∧ (0 < n → ∃ b off, A = some ⟨b, off, none⟩ ∧ b < B ∧ ∀ i d, L[i]? = some d → AskAt w B b (off + i * 13) d)
theorem Asks.below {w w' : World} {B : Nat} {A : Option Addr} {n c : Nat} {L : List AskD} (h : Asks w B A n c L) (hb : Below B w w') : Asks w' B A n c L :=
  ⟨h.1, h.2.1, h.2.2.1, h.2.2.2.1, fun hn => by
    obtain ⟨b, off, e, hlt, hc⟩ := h.2.2.2.2 hn
    exact ⟨b, off, e, hlt, fun i d hd => (hc i d hd).below hb hlt⟩⟩
section
variable {H : Type} {enc : TypeId × Value → H} {w : World}
set_option maxRecDepth 100000 in
theorem f_of_trod {fuel : Nat} {cs : List Value} {x : DataW H × List MemPlace} (h : DataW.trod enc Try.prog w 0 (fun _ => true) true fuel 29 cs = some x) (hl : cs.length = 8) : cs.all (·.oneCell') = true := by
  have cI : Try.prog.cellsOf 3 = 1 := by kernel_rfl
  have cB : Try.prog.cellsOf 4 = 1 := by kernel_rfl
  have cU : Try.prog.cellsOf 25 = 1 := by kernel_rfl
  have cS : Try.prog.cellsOf 26 = 1 := by kernel_rfl
  have cR : Try.prog.cellsOf 27 = 1 := by kernel_rfl
  obtain ⟨ys, n', _, _, hlen, hyl, hf⟩ := DataW.trod_struct Try.underlying29 h
  match cs, hl with
  | [u0, u1, u2, u3, u4, u5, u6, u7], _ =>
    match ys, hyl with
    | [y0, y1, y2, y3, y4, y5, y6, y7], _ =>
      have h0 : DataW.trod enc Try.prog w 0 (fun _ => true) true n' 3 (([u0, u1, u2, u3, u4, u5, u6, u7].drop 0).take (Try.prog.cellsOf 3)) = some y0 := hf 0 _ rfl
      have h1 : DataW.trod enc Try.prog w 0 (fun _ => true) true n' 25 (([u0, u1, u2, u3, u4, u5, u6, u7].drop 1).take (Try.prog.cellsOf 25)) = some y1 := hf 1 _ rfl
      have h2 : DataW.trod enc Try.prog w 0 (fun _ => true) true n' 25 (([u0, u1, u2, u3, u4, u5, u6, u7].drop 2).take (Try.prog.cellsOf 25)) = some y2 := hf 2 _ rfl
      have h3 : DataW.trod enc Try.prog w 0 (fun _ => true) true n' 25 (([u0, u1, u2, u3, u4, u5, u6, u7].drop 3).take (Try.prog.cellsOf 25)) = some y3 := hf 3 _ rfl
      have h4 : DataW.trod enc Try.prog w 0 (fun _ => true) true n' 26 (([u0, u1, u2, u3, u4, u5, u6, u7].drop 4).take (Try.prog.cellsOf 26)) = some y4 := hf 4 _ rfl
      have h5 : DataW.trod enc Try.prog w 0 (fun _ => true) true n' 4 (([u0, u1, u2, u3, u4, u5, u6, u7].drop 5).take (Try.prog.cellsOf 4)) = some y5 := hf 5 _ rfl
      have h6 : DataW.trod enc Try.prog w 0 (fun _ => true) true n' 27 (([u0, u1, u2, u3, u4, u5, u6, u7].drop 6).take (Try.prog.cellsOf 27)) = some y6 := hf 6 _ rfl
      have h7 : DataW.trod enc Try.prog w 0 (fun _ => true) true n' 3 (([u0, u1, u2, u3, u4, u5, u6, u7].drop 7).take (Try.prog.cellsOf 3)) = some y7 := hf 7 _ rfl
      rw [cI] at h0 h7
      rw [cU] at h1 h2 h3
      rw [cS] at h4
      rw [cB] at h5
      rw [cR] at h6
      obtain ⟨k0, e0, _, _⟩ := DataW.trod_int Try.underlying3 h0
      obtain ⟨k1, e1, _, _⟩ := DataW.trod_int Try.underlying25 h1
      obtain ⟨k2, e2, _, _⟩ := DataW.trod_int Try.underlying25 h2
      obtain ⟨k3, e3, _, _⟩ := DataW.trod_int Try.underlying25 h3
      obtain ⟨k5, e5, _⟩ := DataW.trod_bool Try.underlying4 h5
      obtain ⟨k7, e7, _, _⟩ := DataW.trod_int Try.underlying3 h7
      have h4' : ∃ A l c, [u4] = [.slice A l c] := by
        rcases open_slice Try.underlying26 h4 with ⟨e, _⟩ | ⟨a, len, cap, _, _, _, _, e, _⟩
        · exact ⟨_, _, _, e⟩
        · exact ⟨_, _, _, e⟩
      have h6' : ∃ A l c, [u6] = [.slice A l c] := by
        rcases open_slice Try.underlying27 h6 with ⟨e, _⟩ | ⟨a, len, cap, _, _, _, _, e, _⟩
        · exact ⟨_, _, _, e⟩
        · exact ⟨_, _, _, e⟩
      obtain ⟨A4, l4, c4, e4⟩ := h4'
      obtain ⟨A6, l6, c6, e6⟩ := h6'
      obtain rfl : u0 = .int .i64 k0 := by simpa using e0
      obtain rfl : u1 = .int .u64 k1 := by simpa using e1
      obtain rfl : u2 = .int .u64 k2 := by simpa using e2
      obtain rfl : u3 = .int .u64 k3 := by simpa using e3
      obtain rfl : u4 = .slice A4 l4 c4 := by simpa using e4
      obtain rfl : u5 = .bool k5 := by simpa using e5
      obtain rfl : u6 = .slice A6 l6 c6 := by simpa using e6
      obtain rfl : u7 = .int .i64 k7 := by simpa using e7
      rfl
set_option maxHeartbeats 1000000 in
set_option maxRecDepth 100000 in
theorem asks_of_trod {fuel : Nat} {cs : List Value} {x : DataW H × List MemPlace} (h : DataW.trod enc Try.prog w 0 (fun _ => true) true fuel 22 cs = some x) :
    ∃ A n c L, cs = [.slice A n c] ∧ Asks w w.heap.size A n c L := by
  rcases open_slice Try.underlying22 h with ⟨rfl, hx⟩ | ⟨a, len, cap, m, n, D, Pl, rfl, _, hl, hm, hmm, hx, hi⟩
  · exact ⟨none, 0, 0, [], rfl, ⟨rfl, Nat.le_refl _, by unfold maxLen; omega, fun _ => rfl, fun h => absurd h (by omega)⟩⟩
  · obtain rfl : m = cap := by simpa using hmm
    have hC : Try.prog.cellsOf 31 = 13 := by kernel_rfl
    have cI : Try.prog.cellsOf 3 = 1 := by kernel_rfl
    have cU : Try.prog.cellsOf 25 = 1 := by kernel_rfl
    have cS : Try.prog.cellsOf 26 = 1 := by kernel_rfl
    have cF : Try.prog.cellsOf 29 = 8 := by kernel_rfl
    have c5 : Try.prog.cellsOf 5 = 1 := by kernel_rfl
    rw [hC] at hi
    obtain ⟨b, off, spot⟩ := a
    have hspot : 0 < len → spot = none := by
      intro hp
      obtain ⟨cs', hc, _⟩ := hi 0 (by omega)
      obtain ⟨_, hcl, hat⟩ := World.cells?_some hc
      have h0 := hat 0 (by omega)
      rw [List.getElem?_eq_getElem (by omega)] at h0
      simpa [Addr.add] using World.cell?_spot h0
    have each : ∀ i, i < len → ∃ d, spot = none ∧ b < w.heap.size ∧ AskAt w w.heap.size b (off + i * 13) d := by
      intro i hil
      obtain ⟨cs', hc, ht⟩ := hi i (by omega)
      obtain ⟨ys, n', _, _, hlen, hyl, hf⟩ := DataW.trod_struct Try.underlying31 ht
      obtain ⟨_, hcl, hat⟩ := World.cells?_some hc
      have hs : spot = none := hspot (by omega)
      subst hs
      match cs', hcl with
      | [u0, u1, u2, u3, u4, u5, u6, u7, u8, u9, u10, u11, u12], _ =>
        match ys, hyl with
        | [y0, y1, y2, y3, y4, y5], _ =>
          have h0 : DataW.trod enc Try.prog w 0 (fun _ => true) true n' 3 (([u0, u1, u2, u3, u4, u5, u6, u7, u8, u9, u10, u11, u12].drop 0).take (Try.prog.cellsOf 3)) = some y0 := hf 0 _ rfl
          have h1 : DataW.trod enc Try.prog w 0 (fun _ => true) true n' 3 (([u0, u1, u2, u3, u4, u5, u6, u7, u8, u9, u10, u11, u12].drop 1).take (Try.prog.cellsOf 3)) = some y1 := hf 1 _ rfl
          have h2 : DataW.trod enc Try.prog w 0 (fun _ => true) true n' 3 (([u0, u1, u2, u3, u4, u5, u6, u7, u8, u9, u10, u11, u12].drop 2).take (Try.prog.cellsOf 3)) = some y2 := hf 2 _ rfl
          have h3 : DataW.trod enc Try.prog w 0 (fun _ => true) true n' 25 (([u0, u1, u2, u3, u4, u5, u6, u7, u8, u9, u10, u11, u12].drop 3).take (Try.prog.cellsOf 25)) = some y3 := hf 3 _ rfl
          have h4 : DataW.trod enc Try.prog w 0 (fun _ => true) true n' 26 (([u0, u1, u2, u3, u4, u5, u6, u7, u8, u9, u10, u11, u12].drop 4).take (Try.prog.cellsOf 26)) = some y4 := hf 4 _ rfl
          have h5 : DataW.trod enc Try.prog w 0 (fun _ => true) true n' 29 (([u0, u1, u2, u3, u4, u5, u6, u7, u8, u9, u10, u11, u12].drop 5).take (Try.prog.cellsOf 29)) = some y5 := hf 5 _ rfl
          rw [cI] at h0 h1 h2
          rw [cU] at h3
          rw [cS] at h4
          rw [cF] at h5
          have hT : [u5, u6, u7, u8, u9, u10, u11, u12].all (·.oneCell') = true := f_of_trod h5 rfl
          obtain ⟨k0, e0, _, x0⟩ := DataW.trod_int Try.underlying3 h0
          obtain ⟨k1, e1, _, x1⟩ := DataW.trod_int Try.underlying3 h1
          obtain ⟨k2, e2, _, x2⟩ := DataW.trod_int Try.underlying3 h2
          obtain ⟨k3, e3, _, x3⟩ := DataW.trod_int Try.underlying25 h3
          obtain ⟨A, l, c, bs, hA, hr⟩ := inRow_of_trod Try.underlying26 Try.underlying5 c5 h4
          obtain rfl : u0 = .int .i64 k0 := by simpa using e0
          obtain rfl : u1 = .int .i64 k1 := by simpa using e1
          obtain rfl : u2 = .int .i64 k2 := by simpa using e2
          obtain rfl : u3 = .int .u64 k3 := by simpa using e3
          obtain rfl : u4 = .slice A l c := by simpa using hA
          have b0 := bounds_i64 x0
          have b1 := bounds_i64 x1
          have b2 := bounds_i64 x2
          have b3 := bounds_u64 x3
          have a0 := hat 0 (by omega)
          rw [addr_add] at a0
          rw [addr_add] at a0
          have hk3 : ((k3.toNat : Nat) : Int) = k3 := by omega
          refine ⟨⟨k0, k1, k2, k3.toNat, A, l, c, bs, [u5, u6, u7, u8, u9, u10, u11, u12]⟩, rfl, cell_lt a0, fun j v hv => ?_, hr.1, ⟨⟨b0.1, by have := b0.2; show k0 < _; omega⟩, ⟨b1.1, by have := b1.2; show k1 < _; omega⟩, ⟨b2.1, by have := b2.2; show k2 < _; omega⟩, by show k3.toNat < _; have := b3.2; omega, hr.2.1, hr.2.2.1, hr.2.2.2, rfl, hT⟩⟩
          have hv' : [Value.int .i64 k0, .int .i64 k1, .int .i64 k2, .int .u64 (k3.toNat : Nat), .slice A l c, u5, u6, u7, u8, u9, u10, u11, u12][j]? = some v := hv
          rw [hk3] at hv'
          have hj : j < 13 := by
            rcases Nat.lt_or_ge j 13 with h | h
            · exact h
            · rw [List.getElem?_eq_none (by simpa using h)] at hv'; cases hv'
          have aj := hat j (by omega)
          rw [addr_add] at aj
          rw [addr_add] at aj
          rw [aj]
          exact hv'
    obtain ⟨L, hL, hp⟩ := choose_list len each
    refine ⟨_, len, m, L, rfl, ⟨hL, hl, hm, fun h => (by cases h), fun hpos => ?_⟩⟩
    obtain ⟨d, hd⟩ : ∃ d, L[0]? = some d := ⟨_, List.getElem?_eq_getElem (by omega)⟩
    obtain ⟨hs, hb, _⟩ := hp 0 d hd
    subst hs
    exact ⟨b, off, rfl, hb, fun i d hd => (hp i d hd).2.2⟩
end
section
variable {ops : Array Oper} {rest : List Oper} {a : Act} {w : World} {Q : Exit → Act → World → Prop} {dst : Option Tmp} {x y : Operand} {t : TypeId} {pos : String} {after : Array Edge}
set_option maxRecDepth 100000 in
theorem ask_info : (Try.prog.info? 31).map (·.size) = some 13 := by kernel_rfl
theorem at_lda {g : Option (Nat × Bool)} (h : wpList Try.prog ops Q (⟨dst, .load 31 x, t, pos, after, g⟩ :: rest) a w) : wpList Try.prog ops Q (⟨dst, .load 31 x, t, pos, after, g⟩ :: rest) a w := h
theorem at_sta {g : Option (Nat × Bool)} (h : wpList Try.prog ops Q (⟨dst, .store 31 x y, t, pos, after, g⟩ :: rest) a w) : wpList Try.prog ops Q (⟨dst, .store 31 x y, t, pos, after, g⟩ :: rest) a w := h
/-- A whole call's load out of a row. -/
theorem ld_ask (b o : Nat) (l : List Value) (hx : a.eval x = .pointer (some ⟨b, o, none⟩)) (hA : w.rangeAt b o l) (hl : l.length = 13)
    (h : wpList Try.prog ops Q rest (a.put dst (.agg l.toArray)) w) : wpList Try.prog ops Q (⟨dst, .load 31 x, t, pos, after, none⟩ :: rest) a w :=
  wpList_load_mid rfl _ x rfl b o hx l _ hA Try.underlying31 rfl (by rw [hl]; exact ask_info) h
theorem st_ask (w0 : World) (l l' : List Value) (hw : w = w0.alloc (.cells l.toArray 31)) (g : Nat) (hx : a.eval x = .pointer (some ⟨g, 0, none⟩)) (hg : g = w0.heap.size) (hy : a.eval y = .agg l'.toArray) (hl : l.length = 13) (hl' : l'.length = 13)
    (h1 : l'.all (·.oneCell') = true) (h : wpList Try.prog ops Q rest (a.put dst undef) (w0.alloc (.cells l'.toArray 31))) :
    wpList Try.prog ops Q (⟨dst, .store 31 x y, t, pos, after, none⟩ :: rest) a w :=
  wpList_store_top w0 _ l l' hw g hx hg hy (hl.trans hl'.symm) (by rw [hl']; exact ask_info) h1 h
end
end
section
set_option linter.unusedVariables false
set_option linter.unusedSimpArgs false
open Go.RowKit
def smL (xs : List Int) : Bool := xs.all fun x => decide (x ≤ 4611686018427387903)
end
section
set_option linter.unusedVariables false
open Go.RowKit
theorem rsize_any (x : Int) (w : World) : Calls Try.prog 46 #[.int .u64 x] w fun e w' => e = .returned (.int .i64 (sizeS x)) ∧ w = w' := by
  have hfin : (sizeS x : Int) = if x < 64 then 1 else if x < 16384 then 2 else if x < 1073741824 then 4 else if x ≤ 4611686018427387903 then 8 else 0 := by
    unfold sizeS; (repeat' split) <;> rfl
  have H := Lib.hid hfin; clear hfin
  go_enter Try.func46, Try.ntmps46
  go_wp2
  all_goals
    go_ret
    exact ⟨ret_int (by rw [H.out]; (repeat' split) <;> omega), rfl⟩
/-- What the document's own table adds to the first byte. -/
def tblS (s : Nat) : Int := if s = 2 then 64 else if s = 4 then 128 else if s = 8 then 192 else 0
theorem tbl_first (x : Int) (h0 : 0 ≤ x) (h : x ≤ 4611686018427387903) (y : Int) (hy : y = IntKind.u8.wrap (x / 2 ^ (8 * (sizeS x - 1)))) :
    bits BinOp.or IntKind.u8 y (tblS (sizeS x)) = byteS (sizeS x) (putM x) 0 ∧ 0 ≤ y ∧ y < 64 := by
  subst hy
  have hf := put_first x h0 h
  rw [IntKind.wrap_u8]
  unfold tblS
  rcases size_cases x h0 h with ⟨a, b, c, d⟩ | ⟨a, b, c, d⟩ | ⟨a, b, c, d⟩ | ⟨a, b, c, d⟩ <;> rw [a] at hf ⊢ <;> rw [c] at hf ⊢ <;> rw [hf.1]
  · refine ⟨?_, by omega, hf.2⟩
    rw [if_neg (by omega), if_neg (by omega), if_neg (by omega), u8_or _ _ (by omega) (by omega) (by omega) (by omega)]; simp; omega
  · refine ⟨?_, by omega, hf.2⟩
    rw [if_pos (by omega), u8_or _ _ (by omega) (by omega) (by omega) (by omega), Nat.or_comm, nat_join 6 _ _ (by decide) (by omega)]; simp; omega
  · refine ⟨?_, by omega, hf.2⟩
    rw [if_neg (by omega), if_pos (by omega), u8_or _ _ (by omega) (by omega) (by omega) (by omega), Nat.or_comm, nat_join 6 _ _ (by decide) (by omega)]; simp; omega
  · refine ⟨?_, by omega, hf.2⟩
    rw [if_neg (by omega), if_neg (by omega), if_pos (by omega), u8_or _ _ (by omega) (by omega) (by omega) (by omega), Nat.or_comm, nat_join 6 _ _ (by decide) (by omega)]; simp; omega
set_option maxRecDepth 100000 in
set_option maxHeartbeats 2000000 in
theorem rput_any (A : Option Addr) (n c : Nat) (bs : List Int) (x : Int) (w : World) (hr : Rd w w.heap.size A n bs) (hc : n ≤ 140737488355000) (h0 : 0 ≤ x) (h1 : x ≤ 4611686018427387903) :
    Calls Try.prog 33 #[.slice A n c, .int .u64 x] w fun e w' => ∃ v, e = .returned v ∧
      Own w' w.heap.size 5 v (bs ++ putS x) ∧ Below w.heap.size w w' := by
  obtain ⟨i0, hi, hz0, hz1, hz2⟩ := info_parts u8_info
  have hb0 := Below.refl w.heap.size w
  have hps : putS x = beS (sizeS x) (putM x) := rfl
  have hs4 : sizeS x = 1 ∨ sizeS x = 2 ∨ sizeS x = 4 ∨ sizeS x = 8 := by
    rcases size_cases x h0 h1 with ⟨a, _⟩ | ⟨a, _⟩ | ⟨a, _⟩ | ⟨a, _⟩ <;> simp [a]
  have hs8 := size_le x
  have hs1 := size_pos x h1
  have htf := tbl_first x h0 h1 _ rfl
  have hlat := put_later x h0 h1
  obtain ⟨s, hs⟩ : ∃ s, sizeS x = s := ⟨_, rfl⟩
  obtain ⟨M, hMM⟩ : ∃ M, putM x = M := ⟨_, rfl⟩
  have S := Lib.hid hs
  rw [hs] at hps hs8 hs1 htf hlat hs4
  rw [hMM] at hps htf hlat
  clear hs hMM
  have PS := Lib.hid hps
  have LAT := Lib.hid hlat
  have TF := Lib.hid htf
  have S4 := Lib.hid hs4
  have HL := Lib.hid hr.1
  have hby := hr.2.1
  clear hps hlat htf hs4
  go_enter Try.func33, Try.ntmps33
  go_wp2_with (first
    | (go_at_call 46; refine (rsize_any _ _).mono ?_; rintro e w' ⟨rfl, rfl⟩; rw [S.out])
    | (at_builtin; refine wpList_append_rd rfl (.tmp 11) (.tmp 12) 26 rfl w.heap.size 5 i0 Try.underlying26 hi hz0 hz1 hz2 _ [] rfl (Own.of_block (n := 0) (cap := 0) Byt.nil rfl (heap_alloc_new w _) (Nat.le_refl _) (Nat.le_refl _) (Nat.zero_le _) rfl rfl) _ A n c bs rfl (hr.alloc (Nat.le_refl _) _) (by simp; omega) w (hb0.alloc (Nat.le_refl _) _) (by simp) ?_; intro v2 w2 hown2 hb2 hgr2))
  clear hr hb0 hgr2
  go_loopw [6, 7] (fun v i wr => ∃ k : Nat, k ≤ s ∧ i = .int .i64 k ∧ Own wr w.heap.size 5 v (bs ++ (beS s M).take k) ∧ Below w.heap.size w wr) (fun _ i _ => s - (intOf i).toNat)
  case atStart => exact ⟨0, Nat.zero_le _, rfl, by simpa using hown2, hb2⟩
  case round =>
    obtain ⟨k, hk, rfl, hown, hbr⟩ := hrel
    clear hown2 hb2
    have hbs := hbr.size
    by_cases hlt : k < s
    · have htk := beS_take s M k hlt
      have hll : ((beS s M).take k).length ≤ 8 := by have := List.length_take_le k (beS s M); omega
      have TK := Lib.hid htk; clear htk
      by_cases hk0 : k = 0
      · subst hk0
        rcases S4.out with rfl | rfl | rfl | rfl
        all_goals
          go_wp2_with (at_builtin; go_loud (refine wpList_append_rd rfl (.tmp 36) (.tmp 38) 26 rfl w.heap.size 5 i0 Try.underlying26 hi hz0 hz1 hz2 _ _ rfl ((hown.alloc _).alloc _) _ _ 1 1 [_] rfl (Rd.byte _ 5 _ (by simp) _ (u8_bits_bd _ _ _)) (by rw [List.length_append, HL.out]; omega) w ((hbr.alloc hbs _).alloc (by simp; omega) _) (by simp; omega) ?_); intro v' w3 hown3 hb3 hgr3)
          go_roundw
          case rel => exact ⟨1, by omega, by first | rfl | omega, hown3.cast (by rw [show List.take 1 (beS _ M) = List.take (0 + 1) (beS _ M) from rfl, TK.out, ← TF.out.1, IntKind.wrap_u8]; first | (simp [tblS]; done) | (simp [tblS]; rw [show x / 72057594037927936 % 256 = x / 72057594037927936 by omega]))⟩
          case measure => simp [intOf]
      · have hkz : ((k : Int) == 0) = false := by simp; omega
        have hbyte : IntKind.u8.wrap (x / 2 ^ (8 * (s - 1 - k))) = byteS s M k := by
          rw [LAT.out k (by omega) hlt, IntKind.wrap_u8]
        have BY := Lib.hid hbyte; clear hbyte
        go_wp2_with (at_builtin; go_loud (refine wpList_append_rd rfl (.tmp 36) (.tmp 38) 26 rfl w.heap.size 5 i0 Try.underlying26 hi hz0 hz1 hz2 _ _ rfl (hown.alloc _) _ _ 1 1 [_] rfl (Rd.byte _ 5 _ (by simp) _ (by first | exact u8_wrap_bd _ | omega)) (by rw [List.length_append, HL.out]; omega) w (hbr.alloc hbs _) (by simp; omega) ?_); intro v' w3 hown3 hb3 hgr3)
        go_roundw
        case rel => exact ⟨k + 1, by omega, by go_num, hown3.cast (by rw [TK.out, ← BY.out, IntKind.wrap_u8]; simp), hb3⟩
        case measure => simp [intOf]; omega
    · obtain rfl : k = s := by omega
      have hfin : (beS k M).take k = beS k M := List.take_of_length_le (by rw [beS_len]; omega)
      rw [hfin] at hown
      clear hfin
      go_wp2
      go_ret
      exact ⟨_, rfl, by rw [PS.out]; exact hown, hbr⟩
end
section
set_option linter.unusedVariables false
set_option linter.unusedSimpArgs false
open Go.RowKit
def RowPost (base : Nat) (bs : List Int) (w : World) (e : Ending) (w' : World) : Prop := ∃ v, e = .returned v ∧ Own w' base 5 v bs ∧ Below w.heap.size w w'
/-- What the loop keeps. -/
def VsAt (w : World) (base m : Nat) (bs xs : List Int) (k : Nat) (v : Value) (wr : World) : Prop :=
  Below w.heap.size w wr ∧ ∃ A m' c', v = .slice A m' c' ∧ Rd wr wr.heap.size A m' (bs ++ putL (xs.take k)) ∧ m' ≤ m + 8 * k ∧ (1 ≤ k → Own wr base 5 v (bs ++ putL (xs.take k)))
set_option maxRecDepth 100000 in
set_option maxHeartbeats 1000000 in
theorem rvs_any (P : Nat → Prop) (A : Option Addr) (m c : Nat) (bs : List Int) (A' : Option Addr) (n c' : Nat) (xs : List Int) (w : World) (base : Nat) (hr : Rd w w.heap.size A m bs) (hm : m ≤ 100000000000) (hu : UsP w P A' n xs) (hn : n ≤ 100) (hn1 : 1 ≤ n) (hnc : n ≤ c') (hx : smL xs = true) (hbase : base ≤ w.heap.size) :
    Calls Try.prog 24 #[.slice A m c, .slice A' n c'] w (RowPost base (bs ++ putL xs) w) := by
  obtain ⟨hl, hb, hcell⟩ := hu
  obtain ⟨b, off, rfl, hbl, _, hc⟩ := hcell (by omega)
  have HL := Lib.hid hl
  have HC := Lib.hid hc
  have HX := Lib.hid hx
  have H0 : Hid (VsAt w base m bs xs 0 (.slice A m c) w) := Lib.hid ⟨Below.refl _ _, A, m, c, rfl, by simpa [putL] using hr, by omega, fun h => by omega⟩
  clear hl hc hcell hr hx
  go_enter Try.func24, Try.ntmps24
  go_wp2_with fail
  go_loopw [0, 5] (fun v i wr => ∃ k : Nat, k ≤ n ∧ i = .int .i64 k ∧ Hid (VsAt w base m bs xs k v wr)) (fun _ i _ => n - (intOf i).toNat)
  case atStart => exact ⟨0, Nat.zero_le _, rfl, H0⟩
  case round =>
    obtain ⟨k, hk, rfl, hst⟩ := hrel
    obtain ⟨wo, rfl⟩ : ∃ wo : World, wo = wr := ⟨_, rfl⟩
    obtain ⟨hB, A1, m1, c1, rfl, hR, hm1, hO⟩ := hst.out
    clear hst H0
    by_cases hlt : k < n
    · obtain ⟨x, hx⟩ : ∃ x, xs[k]? = some x := ⟨_, List.getElem?_eq_getElem (by rw [HL.out]; exact hlt)⟩
      have ck : wo.cell? ⟨b, off + k, none⟩ = some (.int .u64 x) := (hB.cell (p := ⟨b, _, none⟩) hbl).trans (HC.out k x hx)
      have hxm := List.mem_of_getElem? hx
      have hx0 := (hb x hxm).1
      have hx1 : x ≤ 4611686018427387903 := by
        have := HX.out
        unfold smL at this
        rw [List.all_eq_true] at this
        simpa using this x hxm
      have HT := Lib.hid (putL_take xs k x hx)
      have hs := putS_len x
      have hz := size_le x
      have hnI : (k : Int) < n := by omega
      have HR := Lib.hid hR
      clear hx hxm hO hR
      go_wp2_with fail
      refine (rput_any A1 m1 c1 _ x wo HR.out (by omega) hx0 hx1).mono ?_
      rintro e w2 ⟨v2, rfl, hO2, hB2⟩
      have hlen : (bs ++ putL (xs.take k) ++ putS x).length = m1 + (putS x).length := by rw [List.length_append, HR.out.1]
      have hB3 := hB.trans (hB2.mono hB.size)
      have hO3 := hO2.base_ (base' := base) (by have := hB.size; omega)
      have hF : Hid (VsAt w base m bs xs (k + 1) v2 w2) := Lib.hid (by
        obtain ⟨A2, c2, hv2, _, _, hR2⟩ := hO2.open_n _ hlen
        refine ⟨hB3, A2, _, c2, hv2, ?_, by omega, fun _ => ?_⟩
        · rw [HT.out, ← List.append_assoc]; exact hR2
        · rw [HT.out, ← List.append_assoc]; exact hO3)
      clear hO3 hB3 hO2 hB2 hlen HT
      go_wp2_with fail
      go_roundw
      case rel => exact ⟨k + 1, by omega, by go_num, hF⟩
      case measure => simp [intOf]; omega
    · obtain rfl : k = n := by omega
      have hO1 := hO (by omega)
      have hF : Hid (Own wo base 5 (.slice A1 m1 c1) (bs ++ putL xs)) := Lib.hid (by
        rw [List.take_of_length_le (by rw [HL.out]; exact Nat.le_refl _)] at hO1; exact hO1)
      clear hO hO1 hR
      go_wp2_with fail
      go_ret
      exact ⟨_, rfl, hF.out, hB⟩
end
end Go.Proofs.Ytohahkjikhpamaa
