/-
  A row of chapter 14's calls that came in, or that the law made, in the words of the walks.
-/
import Derived.Test.YthgbnknahnaemaaProg
import Derived.Test.YthgbnknahnaemaaObj
import Derived.Test.YthgbnknahnaemaaOpenRow
import Derived.Deep.Slices
import Derived.ChangeSlices
namespace Go.Proofs.Ythgbnknahnaemaa
set_option linter.unusedVariables false
set_option linter.unusedSimpArgs false
open Go.RowKit Go.ChangeShapes Go.WideShapes Go.Deep
structure AskD where
  k : Int
  off : Int
  size : Int
  most : Int
  fin : Bool
  raw : Bool
  at_ : Int
  A : Option Addr
  n : Nat
  c : Nat
  bs : List Int
def I64 (x : Int) : Prop := -9223372036854775808 ≤ x ∧ x < 9223372036854775808
structure AskD.wf (d : AskD) : Prop where
  k : I64 d.k
  off : I64 d.off
  size : I64 d.size
  most : I64 d.most
  at0 : 0 ≤ d.at_
  at1 : d.at_ < 18446744073709551616
  lc : d.n ≤ d.c
  cm : d.c ≤ maxLen
  nil : d.A = none → d.c = 0
def AskD.v (d : AskD) : Value := .agg #[.int .i64 d.k, .int .i64 d.off, .int .i64 d.size, .int .i64 d.most, .bool d.fin, .bool d.raw, .int .u64 d.at_, .slice d.A d.n d.c]
/-- A call stands at place o of block b; its bytes lie below block B. -/
structure AskAt (w : World) (B b o : Nat) (d : AskD) : Prop where
  c0 : w.cell? ⟨b, o, none⟩ = some (.int .i64 d.k)
  c1 : w.cell? ⟨b, o + 1, none⟩ = some (.int .i64 d.off)
  c2 : w.cell? ⟨b, o + 2, none⟩ = some (.int .i64 d.size)
  c3 : w.cell? ⟨b, o + 3, none⟩ = some (.int .i64 d.most)
  c4 : w.cell? ⟨b, o + 4, none⟩ = some (.bool d.fin)
  c5 : w.cell? ⟨b, o + 5, none⟩ = some (.bool d.raw)
  c6 : w.cell? ⟨b, o + 6, none⟩ = some (.int .u64 d.at_)
  c7 : w.cell? ⟨b, o + 7, none⟩ = some (.slice d.A d.n d.c)
  rd : Rd w B d.A d.n d.bs
  wf : d.wf
theorem AskAt.below {w w' : World} {B b o : Nat} {d : AskD} (h : AskAt w B b o d) (hb : Below B w w') (hlt : b < B) : AskAt w' B b o d :=
  { h with
    c0 := (hb.cell (p := ⟨b, _, none⟩) hlt).trans h.c0
    c1 := (hb.cell (p := ⟨b, _, none⟩) hlt).trans h.c1
    c2 := (hb.cell (p := ⟨b, _, none⟩) hlt).trans h.c2
    c3 := (hb.cell (p := ⟨b, _, none⟩) hlt).trans h.c3
    c4 := (hb.cell (p := ⟨b, _, none⟩) hlt).trans h.c4
    c5 := (hb.cell (p := ⟨b, _, none⟩) hlt).trans h.c5
    c6 := (hb.cell (p := ⟨b, _, none⟩) hlt).trans h.c6
    c7 := (hb.cell (p := ⟨b, _, none⟩) hlt).trans h.c7
    rd := h.rd.below hb }
/-- A row of calls, all of it below block B. -/
def Asks (w : World) (B : Nat) (A : Option Addr) (n c : Nat) (L : List AskD) : Prop :=
  L.length = n ∧ n ≤ c ∧ c ≤ maxLen ∧ (A = none → c = 0) ∧ (0 < n → ∃ b off, A = some ⟨b, off, none⟩ ∧ b < B ∧ ∀ i d, L[i]? = some d → AskAt w B b (off + i * 8) d)
theorem Asks.below {w w' : World} {B : Nat} {A : Option Addr} {n c : Nat} {L : List AskD} (h : Asks w B A n c L) (hb : Below B w w') : Asks w' B A n c L :=
  ⟨h.1, h.2.1, h.2.2.1, h.2.2.2.1, fun hn => by
    obtain ⟨b, off, e, hlt, hc⟩ := h.2.2.2.2 hn
    exact ⟨b, off, e, hlt, fun i d hd => (hc i d hd).below hb hlt⟩⟩
section
variable {H : Type} {enc : TypeId × Value → H} {w : World}
set_option maxHeartbeats 1000000 in
set_option maxRecDepth 100000 in
theorem asks_of_trodS {fuel : Nat} {cs : List Value} {x : DataW H × List MemPlace} (h : DataW.trod enc Try.prog w 0 (fun _ => true) true fuel 26 cs = some x) :
    ∃ A n c L, cs = [.slice A n c] ∧ Asks w w.heap.size A n c L ∧ ((x.1 = .nil ∧ c = 0) ∨ ∃ es sp, x.1 = .slice es sp ∧ es.length + sp.length = c) := by
  rcases open_slice Try.underlying26 h with ⟨rfl, hx⟩ | ⟨a, len, cap, m, n, D, Pl, rfl, _, hl, hm, hmm, hx, hi⟩
  · exact ⟨none, 0, 0, [], rfl, ⟨rfl, Nat.le_refl _, by unfold maxLen; omega, fun _ => rfl, fun h => absurd h (by omega)⟩, .inl ⟨by rw [hx], rfl⟩⟩
  · obtain rfl : m = cap := by simpa using hmm
    have hC : Try.prog.cellsOf 25 = 8 := by kernel_rfl
    have c3 : Try.prog.cellsOf 3 = 1 := by kernel_rfl
    have c4 : Try.prog.cellsOf 4 = 1 := by kernel_rfl
    have c22 : Try.prog.cellsOf 23 = 1 := by kernel_rfl
    have c23 : Try.prog.cellsOf 22 = 1 := by kernel_rfl
    have c5 : Try.prog.cellsOf 5 = 1 := by kernel_rfl
    rw [hC] at hi
    obtain ⟨b, off, spot⟩ := a
    have hspot : 0 < len → spot = none := by
      intro hp
      obtain ⟨cs', hc, _⟩ := hi 0 (by omega)
      obtain ⟨_, hcl, hat⟩ := World.cells?_some hc
      have h0 := hat 0 (by omega)
      rw [List.getElem?_eq_getElem (by omega)] at h0
      simpa [Addr.add] using World.cell?_spot h0
    have each : ∀ i, i < len → ∃ d, spot = none ∧ b < w.heap.size ∧ AskAt w w.heap.size b (off + i * 8) d := by
      intro i hil
      obtain ⟨cs', hc, ht⟩ := hi i (by omega)
      obtain ⟨ys, n', _, _, hlen, hyl, hf⟩ := DataW.trod_struct Try.underlying25 ht
      obtain ⟨_, hcl, hat⟩ := World.cells?_some hc
      match cs', hcl with
      | [u0, u1, u2, u3, u4, u5, u6, u7], _ =>
        match ys, hyl with
        | [y0, y1, y2, y3, y4, y5, y6, y7], _ =>
          have h0 : DataW.trod enc Try.prog w 0 (fun _ => true) true n' 3 (([u0, u1, u2, u3, u4, u5, u6, u7].drop 0).take (Try.prog.cellsOf 3)) = some y0 := hf 0 _ rfl
          have h1 : DataW.trod enc Try.prog w 0 (fun _ => true) true n' 3 (([u0, u1, u2, u3, u4, u5, u6, u7].drop 1).take (Try.prog.cellsOf 3)) = some y1 := hf 1 _ rfl
          have h2 : DataW.trod enc Try.prog w 0 (fun _ => true) true n' 3 (([u0, u1, u2, u3, u4, u5, u6, u7].drop 2).take (Try.prog.cellsOf 3)) = some y2 := hf 2 _ rfl
          have h3 : DataW.trod enc Try.prog w 0 (fun _ => true) true n' 3 (([u0, u1, u2, u3, u4, u5, u6, u7].drop 3).take (Try.prog.cellsOf 3)) = some y3 := hf 3 _ rfl
          have h4 : DataW.trod enc Try.prog w 0 (fun _ => true) true n' 4 (([u0, u1, u2, u3, u4, u5, u6, u7].drop 4).take (Try.prog.cellsOf 4)) = some y4 := hf 4 _ rfl
          have h5 : DataW.trod enc Try.prog w 0 (fun _ => true) true n' 4 (([u0, u1, u2, u3, u4, u5, u6, u7].drop 5).take (Try.prog.cellsOf 4)) = some y5 := hf 5 _ rfl
          have h6 : DataW.trod enc Try.prog w 0 (fun _ => true) true n' 23 (([u0, u1, u2, u3, u4, u5, u6, u7].drop 6).take (Try.prog.cellsOf 23)) = some y6 := hf 6 _ rfl
          have h7 : DataW.trod enc Try.prog w 0 (fun _ => true) true n' 22 (([u0, u1, u2, u3, u4, u5, u6, u7].drop 7).take (Try.prog.cellsOf 22)) = some y7 := hf 7 _ rfl
          rw [c3] at h0 h1 h2 h3
          rw [c4] at h4 h5
          rw [c22] at h6
          rw [c23] at h7
          obtain ⟨k0, e0, _, x0⟩ := DataW.trod_int Try.underlying3 h0
          obtain ⟨k1, e1, _, x1⟩ := DataW.trod_int Try.underlying3 h1
          obtain ⟨k2, e2, _, x2⟩ := DataW.trod_int Try.underlying3 h2
          obtain ⟨k3, e3, _, x3⟩ := DataW.trod_int Try.underlying3 h3
          obtain ⟨k4, e4, _⟩ := DataW.trod_bool Try.underlying4 h4
          obtain ⟨k5, e5, _⟩ := DataW.trod_bool Try.underlying4 h5
          obtain ⟨k6, e6, _, x6⟩ := DataW.trod_int Try.underlying23 h6
          obtain ⟨A, l, c, bs, hA, hr⟩ := inRow_of_trod Try.underlying22 Try.underlying5 c5 h7
          obtain rfl : u0 = .int .i64 k0 := by simpa using e0
          obtain rfl : u1 = .int .i64 k1 := by simpa using e1
          obtain rfl : u2 = .int .i64 k2 := by simpa using e2
          obtain rfl : u3 = .int .i64 k3 := by simpa using e3
          obtain rfl : u4 = .bool k4 := by simpa using e4
          obtain rfl : u5 = .bool k5 := by simpa using e5
          obtain rfl : u6 = .int .u64 k6 := by simpa using e6
          obtain rfl : u7 = .slice A l c := by simpa using hA
          have a0 := hat 0 (by omega)
          have a1 := hat 1 (by omega)
          have a2 := hat 2 (by omega)
          have a3 := hat 3 (by omega)
          have a4 := hat 4 (by omega)
          have a5 := hat 5 (by omega)
          have a6 := hat 6 (by omega)
          have a7 := hat 7 (by omega)
          have hs : spot = none := hspot (by omega)
          subst hs
          rw [addr_add] at a0 a1 a2 a3 a4 a5 a6 a7
          rw [addr_add] at a0 a1 a2 a3 a4 a5 a6 a7
          have b0 := bounds_i64 x0
          have b1 := bounds_i64 x1
          have b2 := bounds_i64 x2
          have b3 := bounds_i64 x3
          have b6 := bounds_u64 x6
          exact ⟨⟨k0, k1, k2, k3, k4, k5, k6, A, l, c, bs⟩, rfl, cell_lt a0, a0, a1, a2, a3, a4, a5, a6, a7, hr.1, ⟨⟨b0.1, by have := b0.2; show k0 < _; omega⟩, ⟨b1.1, by have := b1.2; show k1 < _; omega⟩, ⟨b2.1, by have := b2.2; show k2 < _; omega⟩, ⟨b3.1, by have := b3.2; show k3 < _; omega⟩, b6.1, by have := b6.2; show k6 < _; omega, hr.2.1, hr.2.2.1, hr.2.2.2⟩⟩
    obtain ⟨L, hL, hp⟩ := choose_list len each
    refine ⟨_, len, m, L, rfl, ⟨hL, hl, hm, fun h => (by cases h), fun hpos => ?_⟩, .inr ⟨_, _, by rw [hx], by simp; omega⟩⟩
    obtain ⟨d, hd⟩ : ∃ d, L[0]? = some d := ⟨_, List.getElem?_eq_getElem (by omega)⟩
    obtain ⟨hs, hb, _⟩ := hp 0 d hd
    subst hs
    exact ⟨b, off, rfl, hb, fun i d hd => (hp i d hd).2.2⟩
theorem asks_of_trod {fuel : Nat} {cs : List Value} {x : DataW H × List MemPlace} (h : DataW.trod enc Try.prog w 0 (fun _ => true) true fuel 26 cs = some x) :
    ∃ A n c L, cs = [.slice A n c] ∧ Asks w w.heap.size A n c L := by
  obtain ⟨A, n, c, L, h1, h2, _⟩ := asks_of_trodS h
  exact ⟨A, n, c, L, h1, h2⟩
end
end Go.Proofs.Ythgbnknahnaemaa
