/-
  A row of chapter 17's calls that came in, in the words of the walks.
-/
import Derived.Test.YtahalbmcijbbmaaMq17
import Derived.Test.YtahalbmcijbbmaaMq0
import Derived.Test.YtahalbmcijbbmaaMq18
import Derived.Test.YtahalbmcijbbmaaStru
import Derived.Deep.Slices
import Derived.ChangeSlices
import Derived.Test.YtahalbmcijbbmaaMq9
import Derived.Test.YtahalbmcijbbmaaMq14
namespace Go.Proofs.Ytahalbmcijbbmaa
section
set_option linter.unusedVariables false
set_option linter.unusedSimpArgs false
open Go.RowKit Go.ChangeShapes Go.WideShapes Go.Deep
/-- A call: its numbers, its bytes; T: the cells of its frame that is drawn. -/
structure AskD where
  k : Int
  off : Int
  most : Int
  i : Int
  n : Nat
  fin : Bool
  A : Option Addr
  m : Nat
  c : Nat
  bs : List Int
  T : List Value
def I64 (x : Int) : Prop := -9223372036854775808 ≤ x ∧ x < 9223372036854775808
structure AskD.wf (d : AskD) : Prop where
  k : I64 d.k
  off : I64 d.off
  most : I64 d.most
  i : I64 d.i
  n : d.n < 18446744073709551616
  lc : d.m ≤ d.c
  cm : d.c ≤ maxLen
  nil : d.A = none → d.c = 0
  tl : d.T.length = 8
  t1 : d.T.all (·.oneCell') = true
def AskD.l (d : AskD) : List Value := [.int .i64 d.k, .int .i64 d.off, .int .i64 d.most, .int .i64 d.i, .int .u64 d.n, .bool d.fin, .slice d.A d.m d.c] ++ d.T
theorem AskD.wf.len {d : AskD} (h : d.wf) : d.l.length = 15 := by
  unfold AskD.l
  rw [List.length_append, h.tl]
  rfl
theorem AskD.wf.one {d : AskD} (h : d.wf) : d.l.all (·.oneCell') = true := by
  unfold AskD.l
  rw [List.all_append, h.t1]
  rfl
/-- A call stands at place o of block b; its bytes lie below block B. -/
structure AskAt (w : World) (B b o : Nat) (d : AskD) : Prop where
  at_ : w.rangeAt b o d.l
  rd : Rd w B d.A d.m d.bs
  wf : d.wf
theorem AskAt.below {w w' : World} {B b o : Nat} {d : AskD} (h : AskAt w B b o d) (hb : Below B w w') (hlt : b < B) : AskAt w' B b o d :=
  { h with
    at_ := fun j v hv => (hb.cell (p := ⟨b, _, none⟩) hlt).trans (h.at_ j v hv)
    rd := h.rd.below hb }
/-- A row of calls, all of it below block B. -/
def Asks (w : World) (B : Nat) (A : Option Addr) (n c : Nat) (L : List AskD) : Prop :=
  L.length = n ∧ n ≤ c ∧ c ≤ maxLen ∧ (A = none → c = 0) ∧ (0 < n → ∃ b off, A = some ⟨b, off, none⟩ ∧ b < B ∧ ∀ i d, L[i]? = some d → AskAt w B b (off + i * 15) d)
theorem Asks.below {w w' : World} {B : Nat} {A : Option Addr} {n c : Nat} {L : List AskD} (h : Asks w B A n c L) (hb : Below B w w') : Asks w' B A n c L :=
  ⟨h.1, h.2.1, h.2.2.1, h.2.2.2.1, fun hn => by
    obtain ⟨b, off, e, hlt, hc⟩ := h.2.2.2.2 hn
    exact ⟨b, off, e, hlt, fun i d hd => (hc i d hd).below hb hlt⟩⟩
section
variable {H : Type} {enc : TypeId × Value → H} {w : World}
set_option maxRecDepth 100000 in
theorem f_of_trod {fuel : Nat} {cs : List Value} {x : DataW H × List MemPlace} (h : DataW.trod enc Try.prog w 0 (fun _ => true) true fuel 37 cs = some x) (hl : cs.length = 8) : cs.all (·.oneCell') = true := by
  have cI : Try.prog.cellsOf 3 = 1 := by kernel_rfl
  have cB : Try.prog.cellsOf 4 = 1 := by kernel_rfl
  have cU : Try.prog.cellsOf 22 = 1 := by kernel_rfl
  have cS : Try.prog.cellsOf 34 = 1 := by kernel_rfl
  have cR : Try.prog.cellsOf 35 = 1 := by kernel_rfl
  obtain ⟨ys, n', _, _, hlen, hyl, hf⟩ := DataW.trod_struct Try.underlying37 h
  match cs, hl with
  | [u0, u1, u2, u3, u4, u5, u6, u7], _ =>
    match ys, hyl with
    | [y0, y1, y2, y3, y4, y5, y6, y7], _ =>
      have h0 : DataW.trod enc Try.prog w 0 (fun _ => true) true n' 3 (([u0, u1, u2, u3, u4, u5, u6, u7].drop 0).take (Try.prog.cellsOf 3)) = some y0 := hf 0 _ rfl
      have h1 : DataW.trod enc Try.prog w 0 (fun _ => true) true n' 22 (([u0, u1, u2, u3, u4, u5, u6, u7].drop 1).take (Try.prog.cellsOf 22)) = some y1 := hf 1 _ rfl
      have h2 : DataW.trod enc Try.prog w 0 (fun _ => true) true n' 22 (([u0, u1, u2, u3, u4, u5, u6, u7].drop 2).take (Try.prog.cellsOf 22)) = some y2 := hf 2 _ rfl
      have h3 : DataW.trod enc Try.prog w 0 (fun _ => true) true n' 22 (([u0, u1, u2, u3, u4, u5, u6, u7].drop 3).take (Try.prog.cellsOf 22)) = some y3 := hf 3 _ rfl
      have h4 : DataW.trod enc Try.prog w 0 (fun _ => true) true n' 34 (([u0, u1, u2, u3, u4, u5, u6, u7].drop 4).take (Try.prog.cellsOf 34)) = some y4 := hf 4 _ rfl
      have h5 : DataW.trod enc Try.prog w 0 (fun _ => true) true n' 4 (([u0, u1, u2, u3, u4, u5, u6, u7].drop 5).take (Try.prog.cellsOf 4)) = some y5 := hf 5 _ rfl
      have h6 : DataW.trod enc Try.prog w 0 (fun _ => true) true n' 35 (([u0, u1, u2, u3, u4, u5, u6, u7].drop 6).take (Try.prog.cellsOf 35)) = some y6 := hf 6 _ rfl
      have h7 : DataW.trod enc Try.prog w 0 (fun _ => true) true n' 3 (([u0, u1, u2, u3, u4, u5, u6, u7].drop 7).take (Try.prog.cellsOf 3)) = some y7 := hf 7 _ rfl
      rw [cI] at h0 h7
      rw [cU] at h1 h2 h3
      rw [cS] at h4
      rw [cB] at h5
      rw [cR] at h6
      obtain ⟨k0, e0, _, _⟩ := DataW.trod_int Try.underlying3 h0
      obtain ⟨k1, e1, _, _⟩ := DataW.trod_int Try.underlying22 h1
      obtain ⟨k2, e2, _, _⟩ := DataW.trod_int Try.underlying22 h2
      obtain ⟨k3, e3, _, _⟩ := DataW.trod_int Try.underlying22 h3
      obtain ⟨k5, e5, _⟩ := DataW.trod_bool Try.underlying4 h5
      obtain ⟨k7, e7, _, _⟩ := DataW.trod_int Try.underlying3 h7
      have h4' : ∃ A l c, [u4] = [.slice A l c] := by
        rcases open_slice Try.underlying34 h4 with ⟨e, _⟩ | ⟨a, len, cap, _, _, _, _, e, _⟩
        · exact ⟨_, _, _, e⟩
        · exact ⟨_, _, _, e⟩
      have h6' : ∃ A l c, [u6] = [.slice A l c] := by
        rcases open_slice Try.underlying35 h6 with ⟨e, _⟩ | ⟨a, len, cap, _, _, _, _, e, _⟩
        · exact ⟨_, _, _, e⟩
        · exact ⟨_, _, _, e⟩
      obtain ⟨A4, l4, c4, e4⟩ := h4'
      obtain ⟨A6, l6, c6, e6⟩ := h6'
      obtain rfl : u0 = .int .i64 k0 := by simpa using e0
      obtain rfl : u1 = .int .u64 k1 := by simpa using e1
      obtain rfl : u2 = .int .u64 k2 := by simpa using e2
      obtain rfl : u3 = .int .u64 k3 := by simpa using e3
      obtain rfl : u4 = .slice A4 l4 c4 := by simpa using e4
      obtain rfl : u5 = .bool k5 := by simpa using e5
      obtain rfl : u6 = .slice A6 l6 c6 := by simpa using e6
      obtain rfl : u7 = .int .i64 k7 := by simpa using e7
      rfl
set_option maxHeartbeats 1000000 in
set_option maxRecDepth 100000 in
theorem asks_of_trod {fuel : Nat} {cs : List Value} {x : DataW H × List MemPlace} (h : DataW.trod enc Try.prog w 0 (fun _ => true) true fuel 23 cs = some x) :
    ∃ A n c L, cs = [.slice A n c] ∧ Asks w w.heap.size A n c L := by
  rcases open_slice Try.underlying23 h with ⟨rfl, hx⟩ | ⟨a, len, cap, m, n, D, Pl, rfl, _, hl, hm, hmm, hx, hi⟩
  · exact ⟨none, 0, 0, [], rfl, ⟨rfl, Nat.le_refl _, by unfold maxLen; omega, fun _ => rfl, fun h => absurd h (by omega)⟩⟩
  · obtain rfl : m = cap := by simpa using hmm
    have hC : Try.prog.cellsOf 39 = 15 := by kernel_rfl
    have cI : Try.prog.cellsOf 3 = 1 := by kernel_rfl
    have cU : Try.prog.cellsOf 22 = 1 := by kernel_rfl
    have cS : Try.prog.cellsOf 34 = 1 := by kernel_rfl
    have cF : Try.prog.cellsOf 37 = 8 := by kernel_rfl
    have cB : Try.prog.cellsOf 4 = 1 := by kernel_rfl
    have c5 : Try.prog.cellsOf 5 = 1 := by kernel_rfl
    rw [hC] at hi
    obtain ⟨b, off, spot⟩ := a
    have hspot : 0 < len → spot = none := by
      intro hp
      obtain ⟨cs', hc, _⟩ := hi 0 (by omega)
      obtain ⟨_, hcl, hat⟩ := World.cells?_some hc
      have h0 := hat 0 (by omega)
      rw [List.getElem?_eq_getElem (by omega)] at h0
      simpa [Addr.add] using World.cell?_spot h0
    have each : ∀ i, i < len → ∃ d, spot = none ∧ b < w.heap.size ∧ AskAt w w.heap.size b (off + i * 15) d := by
      intro i hil
      obtain ⟨cs', hc, ht⟩ := hi i (by omega)
      obtain ⟨ys, n', _, _, hlen, hyl, hf⟩ := DataW.trod_struct Try.underlying39 ht
      obtain ⟨_, hcl, hat⟩ := World.cells?_some hc
      have hs : spot = none := hspot (by omega)
      subst hs
      match cs', hcl with
      | [u0, u1, u2, u3, u4, u5, u6, u7, u8, u9, u10, u11, u12, u13, u14], _ =>
        match ys, hyl with
        | [y0, y1, y2, y3, y4, y5, y6, y7], _ =>
          have h0 : DataW.trod enc Try.prog w 0 (fun _ => true) true n' 3 (([u0, u1, u2, u3, u4, u5, u6, u7, u8, u9, u10, u11, u12, u13, u14].drop 0).take (Try.prog.cellsOf 3)) = some y0 := hf 0 _ rfl
          have h1 : DataW.trod enc Try.prog w 0 (fun _ => true) true n' 3 (([u0, u1, u2, u3, u4, u5, u6, u7, u8, u9, u10, u11, u12, u13, u14].drop 1).take (Try.prog.cellsOf 3)) = some y1 := hf 1 _ rfl
          have h2 : DataW.trod enc Try.prog w 0 (fun _ => true) true n' 3 (([u0, u1, u2, u3, u4, u5, u6, u7, u8, u9, u10, u11, u12, u13, u14].drop 2).take (Try.prog.cellsOf 3)) = some y2 := hf 2 _ rfl
          have h3 : DataW.trod enc Try.prog w 0 (fun _ => true) true n' 3 (([u0, u1, u2, u3, u4, u5, u6, u7, u8, u9, u10, u11, u12, u13, u14].drop 3).take (Try.prog.cellsOf 3)) = some y3 := hf 3 _ rfl
          have h4 : DataW.trod enc Try.prog w 0 (fun _ => true) true n' 22 (([u0, u1, u2, u3, u4, u5, u6, u7, u8, u9, u10, u11, u12, u13, u14].drop 4).take (Try.prog.cellsOf 22)) = some y4 := hf 4 _ rfl
          have h5 : DataW.trod enc Try.prog w 0 (fun _ => true) true n' 4 (([u0, u1, u2, u3, u4, u5, u6, u7, u8, u9, u10, u11, u12, u13, u14].drop 5).take (Try.prog.cellsOf 4)) = some y5 := hf 5 _ rfl
          have h6 : DataW.trod enc Try.prog w 0 (fun _ => true) true n' 34 (([u0, u1, u2, u3, u4, u5, u6, u7, u8, u9, u10, u11, u12, u13, u14].drop 6).take (Try.prog.cellsOf 34)) = some y6 := hf 6 _ rfl
          have h7 : DataW.trod enc Try.prog w 0 (fun _ => true) true n' 37 (([u0, u1, u2, u3, u4, u5, u6, u7, u8, u9, u10, u11, u12, u13, u14].drop 7).take (Try.prog.cellsOf 37)) = some y7 := hf 7 _ rfl
          rw [cI] at h0 h1 h2 h3
          rw [cU] at h4
          rw [cB] at h5
          rw [cS] at h6
          rw [cF] at h7
          have hT : [u7, u8, u9, u10, u11, u12, u13, u14].all (·.oneCell') = true := f_of_trod h7 rfl
          obtain ⟨k0, e0, _, x0⟩ := DataW.trod_int Try.underlying3 h0
          obtain ⟨k1, e1, _, x1⟩ := DataW.trod_int Try.underlying3 h1
          obtain ⟨k2, e2, _, x2⟩ := DataW.trod_int Try.underlying3 h2
          obtain ⟨k3, e3, _, x3⟩ := DataW.trod_int Try.underlying3 h3
          obtain ⟨k4, e4, _, x4⟩ := DataW.trod_int Try.underlying22 h4
          obtain ⟨k5, e5, _⟩ := DataW.trod_bool Try.underlying4 h5
          obtain ⟨A, l, c, bs, hA, hr⟩ := inRow_of_trod Try.underlying34 Try.underlying5 c5 h6
          obtain rfl : u0 = .int .i64 k0 := by simpa using e0
          obtain rfl : u1 = .int .i64 k1 := by simpa using e1
          obtain rfl : u2 = .int .i64 k2 := by simpa using e2
          obtain rfl : u3 = .int .i64 k3 := by simpa using e3
          obtain rfl : u4 = .int .u64 k4 := by simpa using e4
          obtain rfl : u5 = .bool k5 := by simpa using e5
          obtain rfl : u6 = .slice A l c := by simpa using hA
          have b0 := bounds_i64 x0
          have b1 := bounds_i64 x1
          have b2 := bounds_i64 x2
          have b3 := bounds_i64 x3
          have b4 := bounds_u64 x4
          have a0 := hat 0 (by omega)
          rw [addr_add] at a0
          rw [addr_add] at a0
          have hk4 : ((k4.toNat : Nat) : Int) = k4 := by omega
          refine ⟨⟨k0, k1, k2, k3, k4.toNat, k5, A, l, c, bs, [u7, u8, u9, u10, u11, u12, u13, u14]⟩, rfl, cell_lt a0, fun j v hv => ?_, hr.1, ⟨⟨b0.1, by have := b0.2; show k0 < _; omega⟩, ⟨b1.1, by have := b1.2; show k1 < _; omega⟩, ⟨b2.1, by have := b2.2; show k2 < _; omega⟩, ⟨b3.1, by have := b3.2; show k3 < _; omega⟩, by show k4.toNat < _; have := b4.2; omega, hr.2.1, hr.2.2.1, hr.2.2.2, rfl, hT⟩⟩
          have hv' : [Value.int .i64 k0, .int .i64 k1, .int .i64 k2, .int .i64 k3, .int .u64 (k4.toNat : Nat), .bool k5, .slice A l c, u7, u8, u9, u10, u11, u12, u13, u14][j]? = some v := hv
          rw [hk4] at hv'
          have hj : j < 15 := by
            rcases Nat.lt_or_ge j 15 with h | h
            · exact h
            · rw [List.getElem?_eq_none (by simpa using h)] at hv'; cases hv'
          have aj := hat j (by omega)
          rw [addr_add] at aj
          rw [addr_add] at aj
          rw [aj]
          exact hv'
    obtain ⟨L, hL, hp⟩ := choose_list len each
    refine ⟨_, len, m, L, rfl, ⟨hL, hl, hm, fun h => (by cases h), fun hpos => ?_⟩⟩
    obtain ⟨d, hd⟩ : ∃ d, L[0]? = some d := ⟨_, List.getElem?_eq_getElem (by omega)⟩
    obtain ⟨hs, hb, _⟩ := hp 0 d hd
    subst hs
    exact ⟨b, off, rfl, hb, fun i d hd => (hp i d hd).2.2⟩
end
section
variable {ops : Array Oper} {rest : List Oper} {a : Act} {w : World} {Q : Exit → Act → World → Prop} {dst : Option Tmp} {x y : Operand} {t : TypeId} {pos : String} {after : Array Edge}
set_option maxRecDepth 100000 in
theorem ask_info : (Try.prog.info? 39).map (·.size) = some 15 := by kernel_rfl
theorem at_lda {g : Option (Nat × Bool)} (h : wpList Try.prog ops Q (⟨dst, .load 39 x, t, pos, after, g⟩ :: rest) a w) : wpList Try.prog ops Q (⟨dst, .load 39 x, t, pos, after, g⟩ :: rest) a w := h
theorem at_sta {g : Option (Nat × Bool)} (h : wpList Try.prog ops Q (⟨dst, .store 39 x y, t, pos, after, g⟩ :: rest) a w) : wpList Try.prog ops Q (⟨dst, .store 39 x y, t, pos, after, g⟩ :: rest) a w := h
/-- A whole call's load out of a row. -/
theorem ld_ask (b o : Nat) (l : List Value) (hx : a.eval x = .pointer (some ⟨b, o, none⟩)) (hA : w.rangeAt b o l) (hl : l.length = 15)
    (h : wpList Try.prog ops Q rest (a.put dst (.agg l.toArray)) w) : wpList Try.prog ops Q (⟨dst, .load 39 x, t, pos, after, none⟩ :: rest) a w :=
  wpList_load_mid rfl _ x rfl b o hx l _ hA Try.underlying39 rfl (by rw [hl]; exact ask_info) h
theorem st_ask (w0 : World) (l l' : List Value) (hw : w = w0.alloc (.cells l.toArray 39)) (g : Nat) (hx : a.eval x = .pointer (some ⟨g, 0, none⟩)) (hg : g = w0.heap.size) (hy : a.eval y = .agg l'.toArray) (hl : l.length = 15) (hl' : l'.length = 15)
    (h1 : l'.all (·.oneCell') = true) (h : wpList Try.prog ops Q rest (a.put dst undef) (w0.alloc (.cells l'.toArray 39))) :
    wpList Try.prog ops Q (⟨dst, .store 39 x y, t, pos, after, none⟩ :: rest) a w :=
  wpList_store_top w0 _ l l' hw g hx hg hy (hl.trans hl'.symm) (by rw [hl']; exact ask_info) h1 h
end
end
section
set_option linter.unusedVariables false
open Go.RowKit
theorem tmod_bd (k m : Int) (hm : 0 < m) : -(m - 1) ≤ k.tmod m ∧ k.tmod m ≤ m - 1 := by
  rcases Int.lt_or_le k 0 with h | h
  · rw [show k = -(-k) by omega, Int.neg_tmod, Int.tmod_eq_emod_of_nonneg (by omega)]
    have := Int.emod_nonneg (-k) (b := m) (by omega)
    have := Int.emod_lt_of_pos (-k) hm
    omega
  · rw [Int.tmod_eq_emod_of_nonneg h]
    have := Int.emod_nonneg k (b := m) (by omega)
    have := Int.emod_lt_of_pos k hm
    omega
theorem tmod_emod (k m : Int) (hm : 0 < m) : k % m = if k.tmod m < 0 then k.tmod m + m else k.tmod m := by
  have hb := tmod_bd k m hm
  have e : k.tmod m % m = k % m := by
    rw [Int.tmod_def, Int.sub_mul_emod_self_left]
  rw [← e]
  split
  · rw [← Int.add_emod_right, Int.emod_eq_of_lt (by omega) (by omega)]
  · exact Int.emod_eq_of_lt (by omega) (by omega)
def withinS (n lo hi : Int) : Int := if lo ≤ n ∧ n ≤ hi then n else lo + n % (hi - lo + 1)
theorem withinS_bd (n lo hi : Int) (h : lo ≤ hi) : lo ≤ withinS n lo hi ∧ withinS n lo hi ≤ hi := by
  unfold withinS
  have a := Int.emod_nonneg n (b := hi - lo + 1) (by omega)
  have b := Int.emod_lt_of_pos n (b := hi - lo + 1) (by omega)
  split <;> omega
theorem within_any (n lo hi : Int) (w : World) (hn0 : -9223372036854775808 ≤ n) (hn1 : n ≤ 9223372036854775807) (hlo : -4611686018427387904 ≤ lo) (hlh : lo ≤ hi) (hhi : hi ≤ 4611686018427387902) :
    Calls Try.prog 11 #[.int .i64 n, .int .i64 lo, .int .i64 hi] w fun e w' => e = .returned (.int .i64 (withinS n lo hi)) ∧ w = w' := by
  by_cases hin : lo ≤ n ∧ n ≤ hi
  · have hfin : withinS n lo hi = n := by unfold withinS; rw [if_pos hin]
    have H := Lib.hid hfin; clear hfin
    obtain ⟨h1, h2⟩ := hin
    go_enter Try.func11, Try.ntmps11
    go_wp2
    go_ret
    exact ⟨ret_int (by rw [H.out]), rfl⟩
  · have hfin : withinS n lo hi = lo + if n.tmod (hi - lo + 1) < 0 then n.tmod (hi - lo + 1) + (hi - lo + 1) else n.tmod (hi - lo + 1) := by
      unfold withinS; rw [if_neg hin, tmod_emod _ _ (by omega)]
    have H := Lib.hid hfin; clear hfin
    have hb := tmod_bd n (hi - lo + 1) (by omega)
    obtain ⟨hb0, hb1⟩ := hb
    rcases Int.lt_or_le n 0 with hneg | hneg
    · rcases Int.lt_or_le n lo with h1 | h1
      · go_enter Try.func11, Try.ntmps11
        go_wp2
        all_goals
          go_ret
          exact ⟨ret_int (by rw [H.out]; split <;> omega), rfl⟩
      · have h2 : hi < n := by omega
        go_enter Try.func11, Try.ntmps11
        go_wp2
        all_goals
          go_ret
          exact ⟨ret_int (by rw [H.out]; split <;> omega), rfl⟩
    · rw [Int.tmod_eq_emod_of_nonneg hneg] at H hb0 hb1
      rcases Int.lt_or_le n lo with h1 | h1
      · go_enter Try.func11, Try.ntmps11
        go_wp2
        all_goals
          go_ret
          exact ⟨ret_int (by rw [H.out]; split <;> omega), rfl⟩
      · have h2 : hi < n := by omega
        go_enter Try.func11, Try.ntmps11
        go_wp2
        all_goals
          go_ret
          exact ⟨ret_int (by rw [H.out]; split <;> omega), rfl⟩
end
section
set_option linter.unusedVariables false
open Go.RowKit
/-- Cut: no more than k bytes. -/
theorem cut_any (A : Option Addr) (n c k : Nat) (w : World) (hn : n ≤ c) (hc : c ≤ maxLen) (hk : k ≤ 1000) (hA : k < n → A ≠ none) :
    Calls Try.prog 12 #[.slice A n c, .int .i64 k] w fun e w' => e = .returned (.slice A (min n k) c) ∧ w = w' := by
  unfold maxLen at hc
  rcases Nat.lt_or_ge k n with h | h
  · cases A with
    | none => exact absurd rfl (hA h)
    | some ad =>
      rw [Nat.min_eq_right (by omega)]
      go_enter Try.func12, Try.ntmps12
      go_wp2

      go_ret
      exact ⟨rfl, rfl⟩
  · rw [Nat.min_eq_left h]
    go_enter Try.func12, Try.ntmps12
    go_wp2
    go_ret
    exact ⟨rfl, rfl⟩
end
end Go.Proofs.Ytahalbmcijbbmaa
