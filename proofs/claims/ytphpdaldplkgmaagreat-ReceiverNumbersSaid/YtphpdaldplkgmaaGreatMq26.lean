/-
  A row of chapter 17's calls that came in, with their frames that are drawn.
-/
import Derived.Test.YtphpdaldplkgmaaGreatMq25
import Derived.Test.YtphpdaldplkgmaaGreatMq0
import Derived.Deep.Slices
import Derived.ChangeSlices
import Derived.Test.YtphpdaldplkgmaaGreatKm
namespace Go.Proofs.YtphpdaldplkgmaaGreat
section
set_option linter.unusedVariables false
set_option linter.unusedSimpArgs false
open Go.RowKit Go.ChangeShapes Go.WideShapes Go.Deep
/-- A call: its numbers, its bytes; x: its frame that is drawn. -/
structure AskD where
  k : Int
  off : Int
  most : Int
  i : Int
  n : Nat
  fin : Bool
  A : Option Addr
  m : Nat
  c : Nat
  bs : List Int
  x : FX
def I64 (x : Int) : Prop := -9223372036854775808 ≤ x ∧ x < 9223372036854775808
structure AskD.wf (d : AskD) : Prop where
  k : I64 d.k
  off : I64 d.off
  most : I64 d.most
  i : I64 d.i
  n : d.n < 18446744073709551616
  lc : d.m ≤ d.c
  cm : d.c ≤ maxLen
  nil : d.A = none → d.c = 0
def AskD.l (d : AskD) : List Value := [.int .i64 d.k, .int .i64 d.off, .int .i64 d.most, .int .i64 d.i, .int .u64 d.n, .bool d.fin, .slice d.A d.m d.c] ++ d.x.l
theorem AskD.wf.len {d : AskD} (h : d.wf) : d.l.length = 15 := by
  unfold AskD.l
  rfl
theorem AskD.wf.one {d : AskD} (h : d.wf) : d.l.all (·.oneCell') = true := by
  unfold AskD.l
  rfl
/-- A call stands at place o of block b; its bytes lie below block B. -/
structure AskAt (w : World) (B b o : Nat) (d : AskD) : Prop where
  at_ : w.rangeAt b o d.l
  rd : Rd w B d.A d.m d.bs
  wf : d.wf
  fx : d.x.ok w (fun b => b < B)
theorem AskAt.below {w w' : World} {B b o : Nat} {d : AskD} (h : AskAt w B b o d) (hb : Below B w w') (hlt : b < B) : AskAt w' B b o d :=
  { h with
    at_ := fun j v hv => (hb.cell (p := ⟨b, _, none⟩) hlt).trans (h.at_ j v hv)
    rd := h.rd.below hb
    fx := FIn.kept h.fx (Kept.of_belowB hb) (fun b hb hn => by omega) }
/-- A row of calls, all of it below block B. -/
def Asks (w : World) (B : Nat) (A : Option Addr) (n c : Nat) (L : List AskD) : Prop :=
  L.length = n ∧ n ≤ c ∧ c ≤ maxLen ∧ (A = none → c = 0) ∧ (0 < n → ∃ b off, A = some ⟨b, off, none⟩ ∧ b < B ∧ ∀ i d, L[i]? = some d → AskAt w B b (off + i * 15) d)
theorem Asks.below {w w' : World} {B : Nat} {A : Option Addr} {n c : Nat} {L : List AskD} (h : Asks w B A n c L) (hb : Below B w w') : Asks w' B A n c L :=
  ⟨h.1, h.2.1, h.2.2.1, h.2.2.2.1, fun hn => by
    obtain ⟨b, off, e, hlt, hc⟩ := h.2.2.2.2 hn
    exact ⟨b, off, e, hlt, fun i d hd => (hc i d hd).below hb hlt⟩⟩
section
variable {H : Type} {enc : TypeId × Value → H} {w : World}
theorem us_of_trod {fuel : Nat} {cs : List Value} {x : DataW H × List MemPlace} (h : DataW.trod enc Tryz.prog w 0 (fun _ => true) true fuel 32 cs = some x) :
    ∃ A len cap xs, cs = [.slice A len cap] ∧ UsP w (fun _ => True) A len xs ∧ len ≤ cap ∧ cap ≤ maxLen := by
  have c22 : Tryz.prog.cellsOf 26 = 1 := by kernel_rfl
  rcases open_ints Tryz.underlying32 Tryz.underlying26 c22 h with ⟨hcs, _⟩ | ⟨x, l, c, zs, hcs, _, hl, hm, hz, _, hcell, hwz⟩
  · exact ⟨none, 0, 0, [], hcs, ⟨rfl, fun x hx => (by cases hx), fun h => absurd h (by omega)⟩, Nat.le_refl _, by unfold maxLen; exact Nat.zero_le _⟩
  · have hz : zs.length = c := by simpa using hz
    refine ⟨some x, l, c, zs.take l, hcs, ⟨by rw [List.length_take]; omega, fun y hy => ?_, fun hp => ?_⟩, hl, hm⟩
    · have := bounds_u64 (hwz y (List.mem_of_mem_take hy))
      omega
    · obtain ⟨b, off, spot⟩ := x
      have h0 := hcell 0 (by omega)
      have hs : spot = none := by simpa [Addr.add] using World.cell?_spot h0
      subst hs
      have h1 := hcell 0 (by omega)
      rw [addr_add] at h1
      refine ⟨b, off, rfl, cell_lt h1, trivial, fun i v hi => ?_⟩
      have hil : i < l := by have := (List.getElem?_eq_some_iff.1 hi).1; rw [List.length_take] at this; omega
      have h2 := hcell i (by omega)
      rw [addr_add] at h2
      rw [List.getElem?_take_of_lt hil] at hi
      rw [h2, List.getD_eq_getElem?_getD, hi]; rfl
set_option maxRecDepth 100000 in
theorem fx_of_trod {fuel : Nat} {cs : List Value} {x : DataW H × List MemPlace} (h : DataW.trod enc Tryz.prog w 0 (fun _ => true) true fuel 34 cs = some x) (hl8 : cs.length = 8) :
    ∃ d : FX, cs = d.l ∧ d.ok w (fun _ => True) := by
  have c3 : Tryz.prog.cellsOf 3 = 1 := by kernel_rfl
  have c22 : Tryz.prog.cellsOf 26 = 1 := by kernel_rfl
  have c23 : Tryz.prog.cellsOf 22 = 1 := by kernel_rfl
  have c24 : Tryz.prog.cellsOf 32 = 1 := by kernel_rfl
  have c5 : Tryz.prog.cellsOf 5 = 1 := by kernel_rfl
  have c4 : Tryz.prog.cellsOf 4 = 1 := by kernel_rfl
  obtain ⟨ys, n', _, _, hlen, hyl, hf⟩ := DataW.trod_struct Tryz.underlying34 h
  match cs, hl8 with
  | [u0, u1, u2, u3, u4, u5, u6, u7], _ =>
    match ys, hyl with
    | [y0, y1, y2, y3, y4, y5, y6, y7], _ =>
      have h0 : DataW.trod enc Tryz.prog w 0 (fun _ => true) true n' 3 (([u0, u1, u2, u3, u4, u5, u6, u7].drop 0).take (Tryz.prog.cellsOf 3)) = some y0 := hf 0 _ rfl
      have h1 : DataW.trod enc Tryz.prog w 0 (fun _ => true) true n' 26 (([u0, u1, u2, u3, u4, u5, u6, u7].drop 1).take (Tryz.prog.cellsOf 26)) = some y1 := hf 1 _ rfl
      have h2 : DataW.trod enc Tryz.prog w 0 (fun _ => true) true n' 26 (([u0, u1, u2, u3, u4, u5, u6, u7].drop 2).take (Tryz.prog.cellsOf 26)) = some y2 := hf 2 _ rfl
      have h3 : DataW.trod enc Tryz.prog w 0 (fun _ => true) true n' 26 (([u0, u1, u2, u3, u4, u5, u6, u7].drop 3).take (Tryz.prog.cellsOf 26)) = some y3 := hf 3 _ rfl
      have h4 : DataW.trod enc Tryz.prog w 0 (fun _ => true) true n' 22 (([u0, u1, u2, u3, u4, u5, u6, u7].drop 4).take (Tryz.prog.cellsOf 22)) = some y4 := hf 4 _ rfl
      have h5 : DataW.trod enc Tryz.prog w 0 (fun _ => true) true n' 4 (([u0, u1, u2, u3, u4, u5, u6, u7].drop 5).take (Tryz.prog.cellsOf 4)) = some y5 := hf 5 _ rfl
      have h6 : DataW.trod enc Tryz.prog w 0 (fun _ => true) true n' 32 (([u0, u1, u2, u3, u4, u5, u6, u7].drop 6).take (Tryz.prog.cellsOf 32)) = some y6 := hf 6 _ rfl
      have h7 : DataW.trod enc Tryz.prog w 0 (fun _ => true) true n' 3 (([u0, u1, u2, u3, u4, u5, u6, u7].drop 7).take (Tryz.prog.cellsOf 3)) = some y7 := hf 7 _ rfl
      rw [c3] at h0 h7
      rw [c22] at h1 h2 h3
      rw [c23] at h4
      rw [c4] at h5
      rw [c24] at h6
      obtain ⟨k0, e0, _, w0⟩ := DataW.trod_int Tryz.underlying3 h0
      obtain ⟨k1, e1, _, w1⟩ := DataW.trod_int Tryz.underlying26 h1
      obtain ⟨k2, e2, _, w2⟩ := DataW.trod_int Tryz.underlying26 h2
      obtain ⟨k3, e3, _, w3⟩ := DataW.trod_int Tryz.underlying26 h3
      obtain ⟨A, l, c, bs, e4, hr⟩ := inRow_of_trod Tryz.underlying22 Tryz.underlying5 c5 h4
      obtain ⟨b, e5, _⟩ := DataW.trod_bool Tryz.underlying4 h5
      obtain ⟨A6, l6, cap6, xs, e6, hu, hlc, hcm⟩ := us_of_trod h6
      obtain ⟨k7, e7, _, w7⟩ := DataW.trod_int Tryz.underlying3 h7
      obtain rfl : u0 = .int .i64 k0 := by simpa using e0
      obtain rfl : u1 = .int .u64 k1 := by simpa using e1
      obtain rfl : u2 = .int .u64 k2 := by simpa using e2
      obtain rfl : u3 = .int .u64 k3 := by simpa using e3
      obtain rfl : u4 = .slice A l c := by simpa using e4
      obtain rfl : u5 = .bool b := by simpa using e5
      obtain rfl : u6 = .slice A6 l6 cap6 := by simpa using e6
      obtain rfl : u7 = .int .i64 k7 := by simpa using e7
      have b1 := bounds_u64 w1
      have b2 := bounds_u64 w2
      have b3 := bounds_u64 w3
      exact ⟨⟨k0, k1, k2, k3, ⟨A, l, c⟩, b, ⟨A6, l6, cap6⟩, k7, bs, xs⟩, rfl, ⟨bounds_i64 w0, ⟨b1.1, by have := b1.2; show k1 < _; omega⟩, ⟨b2.1, by have := b2.2; show k2 < _; omega⟩, ⟨b3.1, by have := b3.2; show k3 < _; omega⟩, ⟨⟨hr.1, fun _ _ _ _ => trivial⟩, hr.2.1, hr.2.2.1, hr.2.2.2⟩, hu, hlc, hcm, bounds_i64 w7⟩⟩
set_option maxHeartbeats 1000000 in
set_option maxRecDepth 100000 in
theorem asks_of_trod {fuel : Nat} {cs : List Value} {x : DataW H × List MemPlace} (h : DataW.trod enc Tryz.prog w 0 (fun _ => true) true fuel 37 cs = some x) :
    ∃ A n c L, cs = [.slice A n c] ∧ Asks w w.heap.size A n c L := by
  rcases open_slice Tryz.underlying37 h with ⟨rfl, hx⟩ | ⟨a, len, cap, m, n, D, Pl, rfl, _, hl, hm, hmm, hx, hi⟩
  · exact ⟨none, 0, 0, [], rfl, ⟨rfl, Nat.le_refl _, by unfold maxLen; omega, fun _ => rfl, fun h => absurd h (by omega)⟩⟩
  · obtain rfl : m = cap := by simpa using hmm
    have hC : Tryz.prog.cellsOf 36 = 15 := by kernel_rfl
    have cI : Tryz.prog.cellsOf 3 = 1 := by kernel_rfl
    have cU : Tryz.prog.cellsOf 26 = 1 := by kernel_rfl
    have cS : Tryz.prog.cellsOf 22 = 1 := by kernel_rfl
    have cF : Tryz.prog.cellsOf 34 = 8 := by kernel_rfl
    have cB : Tryz.prog.cellsOf 4 = 1 := by kernel_rfl
    have c5 : Tryz.prog.cellsOf 5 = 1 := by kernel_rfl
    rw [hC] at hi
    obtain ⟨b, off, spot⟩ := a
    have hspot : 0 < len → spot = none := by
      intro hp
      obtain ⟨cs', hc, _⟩ := hi 0 (by omega)
      obtain ⟨_, hcl, hat⟩ := World.cells?_some hc
      have h0 := hat 0 (by omega)
      rw [List.getElem?_eq_getElem (by omega)] at h0
      simpa [Addr.add] using World.cell?_spot h0
    have each : ∀ i, i < len → ∃ d, spot = none ∧ b < w.heap.size ∧ AskAt w w.heap.size b (off + i * 15) d := by
      intro i hil
      obtain ⟨cs', hc, ht⟩ := hi i (by omega)
      obtain ⟨ys, n', _, _, hlen, hyl, hf⟩ := DataW.trod_struct Tryz.underlying36 ht
      obtain ⟨_, hcl, hat⟩ := World.cells?_some hc
      have hs : spot = none := hspot (by omega)
      subst hs
      match cs', hcl with
      | [u0, u1, u2, u3, u4, u5, u6, u7, u8, u9, u10, u11, u12, u13, u14], _ =>
        match ys, hyl with
        | [y0, y1, y2, y3, y4, y5, y6, y7], _ =>
          have h0 : DataW.trod enc Tryz.prog w 0 (fun _ => true) true n' 3 (([u0, u1, u2, u3, u4, u5, u6, u7, u8, u9, u10, u11, u12, u13, u14].drop 0).take (Tryz.prog.cellsOf 3)) = some y0 := hf 0 _ rfl
          have h1 : DataW.trod enc Tryz.prog w 0 (fun _ => true) true n' 3 (([u0, u1, u2, u3, u4, u5, u6, u7, u8, u9, u10, u11, u12, u13, u14].drop 1).take (Tryz.prog.cellsOf 3)) = some y1 := hf 1 _ rfl
          have h2 : DataW.trod enc Tryz.prog w 0 (fun _ => true) true n' 3 (([u0, u1, u2, u3, u4, u5, u6, u7, u8, u9, u10, u11, u12, u13, u14].drop 2).take (Tryz.prog.cellsOf 3)) = some y2 := hf 2 _ rfl
          have h3 : DataW.trod enc Tryz.prog w 0 (fun _ => true) true n' 3 (([u0, u1, u2, u3, u4, u5, u6, u7, u8, u9, u10, u11, u12, u13, u14].drop 3).take (Tryz.prog.cellsOf 3)) = some y3 := hf 3 _ rfl
          have h4 : DataW.trod enc Tryz.prog w 0 (fun _ => true) true n' 26 (([u0, u1, u2, u3, u4, u5, u6, u7, u8, u9, u10, u11, u12, u13, u14].drop 4).take (Tryz.prog.cellsOf 26)) = some y4 := hf 4 _ rfl
          have h5 : DataW.trod enc Tryz.prog w 0 (fun _ => true) true n' 4 (([u0, u1, u2, u3, u4, u5, u6, u7, u8, u9, u10, u11, u12, u13, u14].drop 5).take (Tryz.prog.cellsOf 4)) = some y5 := hf 5 _ rfl
          have h6 : DataW.trod enc Tryz.prog w 0 (fun _ => true) true n' 22 (([u0, u1, u2, u3, u4, u5, u6, u7, u8, u9, u10, u11, u12, u13, u14].drop 6).take (Tryz.prog.cellsOf 22)) = some y6 := hf 6 _ rfl
          have h7 : DataW.trod enc Tryz.prog w 0 (fun _ => true) true n' 34 (([u0, u1, u2, u3, u4, u5, u6, u7, u8, u9, u10, u11, u12, u13, u14].drop 7).take (Tryz.prog.cellsOf 34)) = some y7 := hf 7 _ rfl
          rw [cI] at h0 h1 h2 h3
          rw [cU] at h4
          rw [cB] at h5
          rw [cS] at h6
          rw [cF] at h7
          obtain ⟨fx, hfe, hfo⟩ := fx_of_trod (cs := [u7, u8, u9, u10, u11, u12, u13, u14]) h7 rfl
          obtain ⟨k0, e0, _, x0⟩ := DataW.trod_int Tryz.underlying3 h0
          obtain ⟨k1, e1, _, x1⟩ := DataW.trod_int Tryz.underlying3 h1
          obtain ⟨k2, e2, _, x2⟩ := DataW.trod_int Tryz.underlying3 h2
          obtain ⟨k3, e3, _, x3⟩ := DataW.trod_int Tryz.underlying3 h3
          obtain ⟨k4, e4, _, x4⟩ := DataW.trod_int Tryz.underlying26 h4
          obtain ⟨k5, e5, _⟩ := DataW.trod_bool Tryz.underlying4 h5
          obtain ⟨A, l, c, bs, hA, hr⟩ := inRow_of_trod Tryz.underlying22 Tryz.underlying5 c5 h6
          obtain rfl : u0 = .int .i64 k0 := by simpa using e0
          obtain rfl : u1 = .int .i64 k1 := by simpa using e1
          obtain rfl : u2 = .int .i64 k2 := by simpa using e2
          obtain rfl : u3 = .int .i64 k3 := by simpa using e3
          obtain rfl : u4 = .int .u64 k4 := by simpa using e4
          obtain rfl : u5 = .bool k5 := by simpa using e5
          obtain rfl : u6 = .slice A l c := by simpa using hA
          have b0 := bounds_i64 x0
          have b1 := bounds_i64 x1
          have b2 := bounds_i64 x2
          have b3 := bounds_i64 x3
          have b4 := bounds_u64 x4
          have a0 := hat 0 (by omega)
          rw [addr_add] at a0
          rw [addr_add] at a0
          have hk4 : ((k4.toNat : Nat) : Int) = k4 := by omega
          refine ⟨⟨k0, k1, k2, k3, k4.toNat, k5, A, l, c, bs, fx⟩, rfl, cell_lt a0, fun j v hv => ?_, hr.1, ⟨⟨b0.1, by have := b0.2; show k0 < _; omega⟩, ⟨b1.1, by have := b1.2; show k1 < _; omega⟩, ⟨b2.1, by have := b2.2; show k2 < _; omega⟩, ⟨b3.1, by have := b3.2; show k3 < _; omega⟩, by show k4.toNat < _; have := b4.2; omega, hr.2.1, hr.2.2.1, hr.2.2.2⟩, FIn.mono hfo fun b hb _ => hb⟩
          have hv' : ([Value.int .i64 k0, .int .i64 k1, .int .i64 k2, .int .i64 k3, .int .u64 (k4.toNat : Nat), .bool k5, .slice A l c] ++ fx.l)[j]? = some v := hv
          rw [← hfe] at hv'
          rw [hk4] at hv'
          have hj : j < 15 := by
            rcases Nat.lt_or_ge j 15 with h | h
            · exact h
            · rw [List.getElem?_eq_none (by simpa using h)] at hv'; cases hv'
          have aj := hat j (by omega)
          rw [addr_add] at aj
          rw [addr_add] at aj
          rw [aj]
          exact hv'
    obtain ⟨L, hL, hp⟩ := choose_list len each
    refine ⟨_, len, m, L, rfl, ⟨hL, hl, hm, fun h => (by cases h), fun hpos => ?_⟩⟩
    obtain ⟨d, hd⟩ : ∃ d, L[0]? = some d := ⟨_, List.getElem?_eq_getElem (by omega)⟩
    obtain ⟨hs, hb, _⟩ := hp 0 d hd
    subst hs
    exact ⟨b, off, rfl, hb, fun i d hd => (hp i d hd).2.2⟩
end
section
variable {ops : Array Oper} {rest : List Oper} {a : Act} {w : World} {Q : Exit → Act → World → Prop} {dst : Option Tmp} {x y : Operand} {t : TypeId} {pos : String} {after : Array Edge}
set_option maxRecDepth 100000 in
theorem ask_info : (Tryz.prog.info? 36).map (·.size) = some 15 := by kernel_rfl
theorem at_lda {g : Option (Nat × Bool)} (h : wpList Tryz.prog ops Q (⟨dst, .load 36 x, t, pos, after, g⟩ :: rest) a w) : wpList Tryz.prog ops Q (⟨dst, .load 36 x, t, pos, after, g⟩ :: rest) a w := h
theorem at_sta {g : Option (Nat × Bool)} (h : wpList Tryz.prog ops Q (⟨dst, .store 36 x y, t, pos, after, g⟩ :: rest) a w) : wpList Tryz.prog ops Q (⟨dst, .store 36 x y, t, pos, after, g⟩ :: rest) a w := h
/-- A whole call's load out of a row. -/
theorem ld_ask (b o : Nat) (l : List Value) (hx : a.eval x = .pointer (some ⟨b, o, none⟩)) (hA : w.rangeAt b o l) (hl : l.length = 15)
    (h : wpList Tryz.prog ops Q rest (a.put dst (.agg l.toArray)) w) : wpList Tryz.prog ops Q (⟨dst, .load 36 x, t, pos, after, none⟩ :: rest) a w :=
  wpList_load_mid rfl _ x rfl b o hx l _ hA Tryz.underlying36 rfl (by rw [hl]; exact ask_info) h
theorem st_ask (w0 : World) (l l' : List Value) (hw : w = w0.alloc (.cells l.toArray 36)) (g : Nat) (hx : a.eval x = .pointer (some ⟨g, 0, none⟩)) (hg : g = w0.heap.size) (hy : a.eval y = .agg l'.toArray) (hl : l.length = 15) (hl' : l'.length = 15)
    (h1 : l'.all (·.oneCell') = true) (h : wpList Tryz.prog ops Q rest (a.put dst undef) (w0.alloc (.cells l'.toArray 36))) :
    wpList Tryz.prog ops Q (⟨dst, .store 36 x y, t, pos, after, none⟩ :: rest) a w :=
  wpList_store_top w0 _ l l' hw g hx hg hy (hl.trans hl'.symm) (by rw [hl']; exact ask_info) h1 h
end
end
section
set_option linter.unusedVariables false
set_option linter.unusedSimpArgs false
open Go.RowKit
section
variable {w w' : World} {base base' p q ps pb : Nat} {O Ob : Nat → Prop} {X : QS}
theorem Bf.base_ {S : BS} (h : Bf w base p O S) (hb : base' ≤ base) : Bf w base' p O S := by
  obtain ⟨ps, vs, vw, l, W, rfl, h⟩ := h
  exact ⟨ps, vs, vw, l, W, rfl, { h with set_ := h.set_.base_ hb, own := h.own.base_ hb, bp := Nat.le_trans hb h.bp }⟩
theorem Qp.base_ (h : Qp w base p O X) (hb : base' ≤ base) : Qp w base' p O X := by
  rcases h with ⟨h1, pb, Ob, rfl, h⟩ | ⟨h1, rfl, h⟩
  · exact .inl ⟨h1, pb, Ob, rfl, { h with bf := h.bf.base_ hb, bp := Nat.le_trans hb h.bp }⟩
  · exact .inr ⟨h1, rfl, ⟨h.at_, Nat.le_trans hb h.bp⟩⟩
theorem ow_base {T : TypeId} {v : Value} {xs : List Value} (h : Ow w base T v xs) (hb : base' ≤ base) : Ow w base' T v xs := by
  refine ⟨h.1, ?_⟩
  rcases h.2 with h0 | ⟨g, cap, cur, rfl, h2, h3⟩
  · exact .inl h0
  · exact .inr ⟨g, cap, cur, rfl, Nat.le_trans hb h2, h3⟩
theorem Qr.base_ (h : Qr w base q O X) (hb : base' ≤ base) : Qr w base' q O X := by
  obtain ⟨vb, vc, B, C, e, h⟩ := h
  exact ⟨vb, vc, B, C, e, { h with ob := h.ob.base_ hb, oc := ow_base h.oc hb, bq := Nat.le_trans hb h.bq }⟩
end
section
variable {wb w0 W w1 w2 W' : World} {base B p q pw k id win : Nat} {O T : Nat → Prop} {X : QS}
/-- The law's do, for any call. -/
theorem do_all17 (hX : Lw wb W base p q pw k O X) (hk : k < 1000) (d : AskD) (hd : d.wf) (hrd : Rd W base d.A d.m d.bs) (hfx : d.x.ok W (fun b => b < base)) :
    Calls Tryz.prog 7 #[.pointer (some ⟨pw, 0, none⟩), .agg d.l.toArray] W fun e w' => e = .returned (.bool true) ∧ DoQ wb W base p q pw k O w' := by
  obtain ⟨L, hz, hl⟩ := hX.start
  have hi := hX.1
  obtain ⟨kd, off, most, i, n, fin, A, m, c, bs, x⟩ := d
  obtain ⟨hd1, hd2, hd3, hd4, hd5, hd6, hd7, hd8⟩ := hd
  simp only at hd1 hd2 hd3 hd4 hd5 hd6 hd7 hd8 hrd hfx
  show Calls Tryz.prog 7 #[.pointer (some ⟨pw, 0, none⟩), .agg (aL kd off most i n fin A m c x.l).toArray] W fun e w' => e = .returned (.bool true) ∧ DoQ wb W base p q pw k O w'
  by_cases h3 : kd = 3
  · subst h3; exact do_reset17 hz hi hl hk hd2 hd5
  by_cases h4 : kd = 4
  · subst h4; exact do_read17_4 hz hi hl hk hd3
  by_cases h5 : kd = 5
  · subst h5; exact do_read17_5 hz hi hl hk hd3
  by_cases h6 : kd = 6
  · subst h6; exact do_stop17 hz hi hl hk
  by_cases h7 : kd = 7
  · subst h7; exact do_next17 hz hi hl hk
  by_cases h8 : kd = 8
  · subst h8; exact do_lost17 hz hi hl hk hd4 x hfx rfl
  by_cases h9 : kd = 9
  · subst h9; exact do_any17 hz hi hl hk hd4 x hfx rfl
  exact do_stream17 hz hi hl hk hd2 (by simpa using h3) (by simpa using h4) (by simpa using h5) (by simpa using h6) (by simpa using h7) (by simpa using h8) (by simpa using h9) hd8 hd6 hd7 bs hrd
theorem Lw.kept (h : Lw wb W base p q pw k O X) (hk : Kept T W W') (hs : ∀ j, O j → ¬ T j) (hT : ∀ j, T j → base ≤ j) : Lw wb W' base p q pw k O X := by
  obtain ⟨h1, O1, O2, tv, L, rfl, h2, hl, hb⟩ := h
  have hbs : base ≤ W.heap.size := by have := (h2.lt pw (.inr (.inr (.inl rfl)))); omega
  exact ⟨h1, O1, O2, tv, L, rfl, h2.kept hk hs, hl, hk.below hb hbs hT⟩
theorem Lw.lt (h : Lw wb W base p q pw k O X) : ∀ j, O j → base ≤ j ∧ j < W.heap.size := by
  obtain ⟨h1, O1, O2, tv, L, rfl, h2, _⟩ := h
  exact h2.lt
theorem Lw.bl (h : Lw wb W base p q pw k O X) : Below base wb W := by
  obtain ⟨h1, O1, O2, tv, L, rfl, h2, hl, hb⟩ := h
  exact hb
theorem Lw.p0 (h : Lw wb W base p q pw k O X) : W.cell? ⟨pw, 0, none⟩ = some (.pointer (some ⟨p, 0, none⟩)) := by
  obtain ⟨L, hz, _⟩ := h.start
  exact hz.p0
theorem xi0 (hid : id ≤ 4611686018427387903) : XI 0 (qs0 id win) :=
  ⟨qs0_ok id win (by omega), hid, by show min win 2048 ≤ _; omega, by show 0 ≤ _; exact Nat.zero_le _⟩
/-- A world that is born behind W. -/
theorem lw_born (hB : Below B w0 W) (hBs : B ≤ W.heap.size) (hid : id ≤ 4611686018427387903) (h1 : ∃ O, Qp w1 W.heap.size p O (qs0 id win)) (b1 : Below W.heap.size W w1) (h2 : ∃ O, Qr w2 w1.heap.size q O (qs0 id win)) (b2 : Below w1.heap.size w1 w2) :
    ∃ O, Lw w0 (w2.alloc (.cells #[.pointer (some ⟨p, 0, none⟩), .pointer (some ⟨q, 0, none⟩), .slice none 0 0] 31)) B p q w2.heap.size 0 O (qs0 id win) ∧ ∀ j, O j → W.heap.size ≤ j := by
  obtain ⟨O1, h1⟩ := h1
  obtain ⟨O2, h2⟩ := h2
  have s1 := b1.size
  have s2 := b2.size
  have b3 : Below w2.heap.size w2 (w2.alloc (.cells #[.pointer (some ⟨p, 0, none⟩), .pointer (some ⟨q, 0, none⟩), .slice none 0 0] 31)) := (Below.refl _ _).alloc (Nat.le_refl _) _
  have hp := ((h1.below b2).below b3).base_ hBs
  have hq := (h2.below b3).base_ (show B ≤ w1.heap.size by omega)
  have hA := At.new w2 31 [.pointer (some ⟨p, 0, none⟩), .pointer (some ⟨q, 0, none⟩), .slice none 0 0]
  have l1 := h1.lt
  have l2 := h2.lt
  have hno : ∀ j, (Value.slice none 0 0).ownBlock ≠ some j := fun j e => by cases e
  refine ⟨_, ⟨xi0 hid, O1, O2, .slice none 0 0, [], rfl, ⟨hp, hq, hA, World.ownsRow_nil _ _ _ _, Nat.zero_le _, by omega, fun j hj e => by have := (l1 j hj).2; have := (l2 j e).1; omega, fun j hj => ⟨by have := (l1 j hj).2; omega, hno j⟩, fun j hj => ⟨by have := (l2 j hj).2; omega, hno j⟩, hno _⟩, Nat.le_refl _, ?_⟩, ?_⟩
  · exact ((hB.trans (b1.mono hBs)).trans (b2.mono (by omega))).trans (b3.mono (by omega))
  · rintro j (hj | hj | rfl | hj)
    · exact (l1 j hj).1
    · have := (l2 j hj).1; omega
    · omega
    · exact absurd hj (hno j)
end
/-- Both worlds of the law. -/
def Lp (w0 W : World) (p1 q1 pw1 k1 p2 q2 pw2 k2 : Nat) : Prop := ∃ O1 X1 O2 X2, Lw w0 W w0.heap.size p1 q1 pw1 k1 O1 X1 ∧ Lw w0 W w0.heap.size p2 q2 pw2 k2 O2 X2 ∧ ∀ j, O1 j → ¬ O2 j
section
variable {w0 W W' : World} {p1 q1 pw1 k1 p2 q2 pw2 k2 : Nat}
theorem Lp.swap (h : Lp w0 W p1 q1 pw1 k1 p2 q2 pw2 k2) : Lp w0 W p2 q2 pw2 k2 p1 q1 pw1 k1 := by
  obtain ⟨O1, X1, O2, X2, h1, h2, h3⟩ := h
  exact ⟨O2, X2, O1, X1, h2, h1, fun j hj e => h3 j e hj⟩
theorem Lp.bl (h : Lp w0 W p1 q1 pw1 k1 p2 q2 pw2 k2) : Below w0.heap.size w0 W := by
  obtain ⟨O1, X1, O2, X2, h1, h2, h3⟩ := h
  exact h1.bl
theorem Lp.c1 (h : Lp w0 W p1 q1 pw1 k1 p2 q2 pw2 k2) : W.cell? ⟨pw1, 0, none⟩ = some (.pointer (some ⟨p1, 0, none⟩)) := by
  obtain ⟨O1, X1, O2, X2, h1, h2, h3⟩ := h
  exact h1.p0
theorem Lp.c2 (h : Lp w0 W p1 q1 pw1 k1 p2 q2 pw2 k2) : W.cell? ⟨pw2, 0, none⟩ = some (.pointer (some ⟨p2, 0, none⟩)) := h.swap.c1
theorem do_one (h : Lp w0 W p1 q1 pw1 k1 p2 q2 pw2 k2) (hk : k1 < 1000) {b o : Nat} {d : AskD} (hd : AskAt w0 w0.heap.size b o d) :
    Calls Tryz.prog 7 #[.pointer (some ⟨pw1, 0, none⟩), .agg d.l.toArray] W fun e w' => e = .returned (.bool true) ∧ Lp w0 w' p1 q1 pw1 (k1 + 1) p2 q2 pw2 k2 := by
  have hbl := h.bl
  obtain ⟨O1, X1, O2, X2, h1, h2, h3⟩ := h
  refine (do_all17 h1 hk d hd.wf (hd.rd.below hbl) (FIn.kept hd.fx (Kept.of_belowB hbl) fun b hb hn => by omega)).mono ?_
  rintro e w' ⟨rfl, O', X', h4, h5, h6⟩
  refine ⟨rfl, O', X', O2, X2, h4, h2.kept h5 (fun j hj e => h3 j e hj) fun j hj => (h1.lt j hj).1, fun j hj e => ?_⟩
  rcases h6 j hj with h' | h'
  · exact h3 j h' e
  · have := (h2.lt j e).2; omega
theorem do_two (h : Lp w0 W p1 q1 pw1 k1 p2 q2 pw2 k2) (hk : k2 < 1000) {b o : Nat} {d : AskD} (hd : AskAt w0 w0.heap.size b o d) :
    Calls Tryz.prog 7 #[.pointer (some ⟨pw2, 0, none⟩), .agg d.l.toArray] W fun e w' => e = .returned (.bool true) ∧ Lp w0 w' p1 q1 pw1 k1 p2 q2 pw2 (k2 + 1) :=
  (do_one h.swap hk hd).mono fun e w' ⟨h1, h2⟩ => ⟨h1, h2.swap⟩
theorem lp_born {w1 w2 w3 w4 w5 : World} {id win1 win2 : Nat} (hid : id ≤ 4611686018427387903) (hB : Below w0.heap.size w0 W) (hBs : w0.heap.size ≤ W.heap.size)
    (h1 : ∃ O, Qp w1 W.heap.size p1 O (qs0 id win1)) (b1 : Below W.heap.size W w1) (h2 : ∃ O, Qr w2 w1.heap.size q1 O (qs0 id win1)) (b2 : Below w1.heap.size w1 w2)
    (e3 : w2.alloc (.cells #[.pointer (some ⟨p1, 0, none⟩), .pointer (some ⟨q1, 0, none⟩), .slice none 0 0] 31) = w3)
    (h4 : ∃ O, Qp w4 w3.heap.size p2 O (qs0 id win2)) (b4 : Below w3.heap.size w3 w4) (h5 : ∃ O, Qr w5 w4.heap.size q2 O (qs0 id win2)) (b5 : Below w4.heap.size w4 w5) :
    Lp w0 (w5.alloc (.cells #[.pointer (some ⟨p2, 0, none⟩), .pointer (some ⟨q2, 0, none⟩), .slice none 0 0] 31)) p1 q1 w2.heap.size 0 p2 q2 w5.heap.size 0 := by
  obtain ⟨O1, L1, _⟩ := lw_born hB hBs hid h1 b1 h2 b2
  rw [e3] at L1
  have hbs3 : w0.heap.size ≤ w3.heap.size := L1.bl.size
  obtain ⟨O2, L2, hO2⟩ := lw_born L1.bl hbs3 hid h4 b4 h5 b5
  have s4 := b4.size
  have s5 := b5.size
  have bb : Below w3.heap.size w3 (w5.alloc (.cells #[.pointer (some ⟨p2, 0, none⟩), .pointer (some ⟨q2, 0, none⟩), .slice none 0 0] 31)) := (b4.trans (b5.mono s4)).trans ((Below.refl _ _).alloc (by omega) _)
  exact ⟨O1, _, O2, _, L1.kept (Kept.of_below bb fun _ => False) (fun _ _ h => h) (fun j h => h.elim), L2, fun j hj e => by have := (L1.lt j hj).2; have := hO2 j e; omega⟩
end
section
variable {ops : Array Oper} {rest : List Oper} {a : Act} {w : World} {Q : Exit → Act → World → Prop} {dst : Option Tmp} {x y : Operand} {t : TypeId} {pos : String} {after : Array Edge} {g : Option (Nat × Bool)}
theorem ld_ask_g (b o : Nat) (l : List Value) (hg : Region.wanted ⟨dst, .load 36 x, t, pos, after, g⟩ (yielded ops a.tmps) = true) (hx : a.eval x = .pointer (some ⟨b, o, none⟩)) (hA : w.rangeAt b o l) (hl : l.length = 15)
    (h : wpList Tryz.prog ops Q rest (a.put dst (.agg l.toArray)) w) : wpList Tryz.prog ops Q (⟨dst, .load 36 x, t, pos, after, g⟩ :: rest) a w := by
  refine wpList_step fun K hK => ?_
  rw [if_pos hg]
  exact wp_load_mid _ _ rfl b o hx l _ hA Tryz.underlying36 rfl (by rw [hl]; exact ask_info) (hK _ _ h)
end
end
end Go.Proofs.YtphpdaldplkgmaaGreat
