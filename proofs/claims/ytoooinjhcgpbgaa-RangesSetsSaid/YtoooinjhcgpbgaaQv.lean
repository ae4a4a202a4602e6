/-
  A row of calls (Kind, Lo, Hi) that came in, or that the call made, in the words of the walks.
-/
import Derived.Test.YtoooinjhcgpbgaaProg
import Derived.Test.YtoooinjhcgpbgaaObj
import Derived.Test.YtoooinjhcgpbgaaOpenRow
import Derived.Deep.Slices
import Derived.ChangeSlices
namespace Go.Proofs.Ytoooinjhcgpbgaa
set_option linter.unusedVariables false
set_option linter.unusedSimpArgs false
open Go.RowKit Go.ChangeShapes Go.WideShapes Go.Deep
structure AskD where
  k : Int
  lo : Int
  hi : Int
def AskD.wf (d : AskD) : Prop := -9223372036854775808 ≤ d.k ∧ d.k < 9223372036854775808 ∧ 0 ≤ d.lo ∧ d.lo < 18446744073709551616 ∧ 0 ≤ d.hi ∧ d.hi < 18446744073709551616
/-- A call stands at place o of block b. -/
structure AskAt (w : World) (b o : Nat) (d : AskD) : Prop where
  ck : w.cell? ⟨b, o, none⟩ = some (.int .i64 d.k)
  cl : w.cell? ⟨b, o + 1, none⟩ = some (.int .u64 d.lo)
  ch : w.cell? ⟨b, o + 2, none⟩ = some (.int .u64 d.hi)
  wf : d.wf
theorem AskAt.below {w w' : World} {B b o : Nat} {d : AskD} (h : AskAt w b o d) (hb : Below B w w') (hlt : b < B) : AskAt w' b o d :=
  { h with
    ck := (hb.cell (p := ⟨b, _, none⟩) hlt).trans h.ck
    cl := (hb.cell (p := ⟨b, _, none⟩) hlt).trans h.cl
    ch := (hb.cell (p := ⟨b, _, none⟩) hlt).trans h.ch }
/-- A row of calls, all of it below block B. -/
def Asks (w : World) (B : Nat) (A : Option Addr) (n c : Nat) (L : List AskD) : Prop :=
  L.length = n ∧ n ≤ c ∧ c ≤ maxLen ∧ (A = none → c = 0) ∧ (0 < n → ∃ b off, A = some ⟨b, off, none⟩ ∧ b < B ∧ ∀ i d, L[i]? = some d → AskAt w b (off + i * 3) d)
theorem Asks.below {w w' : World} {B : Nat} {A : Option Addr} {n c : Nat} {L : List AskD} (h : Asks w B A n c L) (hb : Below B w w') : Asks w' B A n c L :=
  ⟨h.1, h.2.1, h.2.2.1, h.2.2.2.1, fun hn => by
    obtain ⟨b, off, e, hlt, hc⟩ := h.2.2.2.2 hn
    exact ⟨b, off, e, hlt, fun i d hd => (hc i d hd).below hb hlt⟩⟩
section
variable {H : Type} {enc : TypeId × Value → H} {w : World}
theorem asks_of_trodS {fuel : Nat} {cs : List Value} {x : DataW H × List MemPlace} (h : DataW.trod enc Try.prog w 0 (fun _ => true) true fuel 22 cs = some x) :
    ∃ A n c L, cs = [.slice A n c] ∧ Asks w w.heap.size A n c L ∧ ((x.1 = .nil ∧ c = 0) ∨ ∃ es sp, x.1 = .slice es sp ∧ es.length + sp.length = c) := by
  rcases open_slice Try.underlying22 h with ⟨rfl, hx⟩ | ⟨a, len, cap, m, n, D, Pl, rfl, _, hl, hm, hmm, hx, hi⟩
  · exact ⟨none, 0, 0, [], rfl, ⟨rfl, Nat.le_refl _, by unfold maxLen; omega, fun _ => rfl, fun h => absurd h (by omega)⟩, .inl ⟨by rw [hx], rfl⟩⟩
  · obtain rfl : m = cap := by simpa using hmm
    have hC : Try.prog.cellsOf 25 = 3 := by kernel_rfl
    have c3 : Try.prog.cellsOf 3 = 1 := by kernel_rfl
    have c22 : Try.prog.cellsOf 23 = 1 := by kernel_rfl
    rw [hC] at hi
    obtain ⟨b, off, spot⟩ := a
    have hspot : 0 < len → spot = none := by
      intro hp
      obtain ⟨cs', hc, _⟩ := hi 0 (by omega)
      obtain ⟨_, hcl, hat⟩ := World.cells?_some hc
      have h0 := hat 0 (by omega)
      rw [List.getElem?_eq_getElem (by omega)] at h0
      simpa [Addr.add] using World.cell?_spot h0
    have each : ∀ i, i < len → ∃ d, spot = none ∧ b < w.heap.size ∧ AskAt w b (off + i * 3) d := by
      intro i hil
      obtain ⟨cs', hc, ht⟩ := hi i (by omega)
      obtain ⟨ys, n', _, _, hlen, hyl, hf⟩ := DataW.trod_struct Try.underlying25 ht
      obtain ⟨_, hcl, hat⟩ := World.cells?_some hc
      match cs', hcl with
      | [u0, u1, u2], _ =>
        match ys, hyl with
        | [y0, y1, y2], _ =>
          have h0 : DataW.trod enc Try.prog w 0 (fun _ => true) true n' 3 (([u0, u1, u2].drop 0).take (Try.prog.cellsOf 3)) = some y0 := hf 0 _ rfl
          have h1 : DataW.trod enc Try.prog w 0 (fun _ => true) true n' 23 (([u0, u1, u2].drop 1).take (Try.prog.cellsOf 23)) = some y1 := hf 1 _ rfl
          have h2 : DataW.trod enc Try.prog w 0 (fun _ => true) true n' 23 (([u0, u1, u2].drop 2).take (Try.prog.cellsOf 23)) = some y2 := hf 2 _ rfl
          rw [c3] at h0
          rw [c22] at h1 h2
          obtain ⟨k, hk, _, wk⟩ := DataW.trod_int Try.underlying3 h0
          obtain ⟨nn, hn, _, wn⟩ := DataW.trod_int Try.underlying23 h1
          obtain ⟨xx, hx, _, wx⟩ := DataW.trod_int Try.underlying23 h2
          obtain rfl : u0 = .int .i64 k := by simpa using hk
          obtain rfl : u1 = .int .u64 nn := by simpa using hn
          obtain rfl : u2 = .int .u64 xx := by simpa using hx
          have a0 := hat 0 (by omega)
          have a1 := hat 1 (by omega)
          have a2 := hat 2 (by omega)
          have hs : spot = none := hspot (by omega)
          subst hs
          rw [addr_add] at a0 a1 a2
          rw [addr_add] at a0 a1 a2
          have b1 := bounds_i64 wk
          have b2 := bounds_u64 wn
          have b3 := bounds_u64 wx
          exact ⟨⟨k, nn, xx⟩, rfl, cell_lt a0, a0, a1, a2, b1.1, by have := b1.2; show k < _; omega, b2.1, by have := b2.2; show nn < _; omega, b3.1, by have := b3.2; show xx < _; omega⟩
    obtain ⟨L, hL, hp⟩ := choose_list len each
    refine ⟨_, len, m, L, rfl, ⟨hL, hl, hm, fun h => (by cases h), fun hpos => ?_⟩, .inr ⟨_, _, by rw [hx], by simp; omega⟩⟩
    obtain ⟨d, hd⟩ : ∃ d, L[0]? = some d := ⟨_, List.getElem?_eq_getElem (by omega)⟩
    obtain ⟨hs, hb, _⟩ := hp 0 d hd
    subst hs
    exact ⟨b, off, rfl, hb, fun i d hd => (hp i d hd).2.2⟩
theorem asks_of_trod {fuel : Nat} {cs : List Value} {x : DataW H × List MemPlace} (h : DataW.trod enc Try.prog w 0 (fun _ => true) true fuel 22 cs = some x) :
    ∃ A n c L, cs = [.slice A n c] ∧ Asks w w.heap.size A n c L := by
  obtain ⟨A, n, c, L, h1, h2, _⟩ := asks_of_trodS h
  exact ⟨A, n, c, L, h1, h2⟩
end
end Go.Proofs.Ytoooinjhcgpbgaa
