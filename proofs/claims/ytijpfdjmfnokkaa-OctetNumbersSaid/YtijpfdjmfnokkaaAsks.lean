/-
  A row of asks (what is written, or read) that came in as an argument, in the words of the walks.
-/
import Derived.Test.YtijpfdjmfnokkaaProg
import Derived.Test.YtijpfdjmfnokkaaInRow
import Derived.Test.YtijpfdjmfnokkaaObj
import Derived.Deep.Slices
import Derived.ChangeSlices
namespace Go.Proofs.Ytijpfdjmfnokkaa
set_option linter.unusedVariables false
open Go.RowKit Go.ChangeShapes Go.WideShapes Go.Deep
section
variable {H : Type} {enc : TypeId × Value → H} {P : Program} {w : World}
/-- What a reading of a row of bytes says in the words of the walks. -/
theorem inRow_of_trod {t e : TypeId} {fuel : Nat} {cs : List Value} {x : DataW H × List MemPlace} (ht : P.underlying t = some (.slice e)) (he : P.underlying e = some (.int .u8)) (hc : P.cellsOf e = 1)
    (h : DataW.trod enc P w 0 (fun _ => true) true fuel t cs = some x) : ∃ A len cap bs, cs = [.slice A len cap] ∧ InRow w A len cap bs := by
  rcases open_ints ht he hc h with ⟨hcs, _⟩ | ⟨x, l, c, zs, hcs, _, hl, hm, hz, _, hcell, hwz⟩
  · exact ⟨none, 0, 0, [], hcs, inRow_nil w 0 0 rfl rfl⟩
  · exact ⟨_, _, _, _, hcs, inRow_some hl hm (by simpa using hz) hcell hwz⟩
end
structure AskD where
  k : Int
  n : Int
  x : Int
  A : Option Addr
  len : Nat
  cap : Nat
  bs : List Int
/-- An ask stands at place o of block b; its bytes lie below block B. -/
structure AskAt (w : World) (B b o : Nat) (d : AskD) : Prop where
  ck : w.cell? ⟨b, o, none⟩ = some (.int .i64 d.k)
  cn : w.cell? ⟨b, o + 1, none⟩ = some (.int .i64 d.n)
  cx : w.cell? ⟨b, o + 2, none⟩ = some (.int .u64 d.x)
  cb : w.cell? ⟨b, o + 3, none⟩ = some (.slice d.A d.len d.cap)
  rd : Rd w B d.A d.len d.bs
  lc : d.len ≤ d.cap
  cm : d.cap ≤ maxLen
  nil : d.A = none → d.cap = 0
  k0 : -9223372036854775808 ≤ d.k
  k1 : d.k ≤ 9223372036854775807
  n0 : -9223372036854775808 ≤ d.n
  n1 : d.n ≤ 9223372036854775807
  x0 : 0 ≤ d.x
  x1 : d.x < 18446744073709551616
theorem AskAt.below {w w' : World} {B b o : Nat} {d : AskD} (h : AskAt w B b o d) (hb : Below B w w') (hlt : b < B) : AskAt w' B b o d :=
  { h with
    ck := (hb.cell (p := ⟨b, _, none⟩) hlt).trans h.ck
    cn := (hb.cell (p := ⟨b, _, none⟩) hlt).trans h.cn
    cx := (hb.cell (p := ⟨b, _, none⟩) hlt).trans h.cx
    cb := (hb.cell (p := ⟨b, _, none⟩) hlt).trans h.cb
    rd := h.rd.below hb }
/-- A row of asks that came in, all of it below block B. -/
def Asks (w : World) (B : Nat) (A : Option Addr) (n c : Nat) (L : List AskD) : Prop :=
  L.length = n ∧ n ≤ c ∧ c ≤ maxLen ∧ (A = none → c = 0) ∧ (0 < n → ∃ b off, A = some ⟨b, off, none⟩ ∧ b < B ∧ ∀ i d, L[i]? = some d → AskAt w B b (off + i * 4) d)
theorem Asks.below {w w' : World} {B : Nat} {A : Option Addr} {n c : Nat} {L : List AskD} (h : Asks w B A n c L) (hb : Below B w w') : Asks w' B A n c L :=
  ⟨h.1, h.2.1, h.2.2.1, h.2.2.2.1, fun hn => by
    obtain ⟨b, off, e, hlt, hc⟩ := h.2.2.2.2 hn
    exact ⟨b, off, e, hlt, fun i d hd => (hc i d hd).below hb hlt⟩⟩
theorem choose_list {α : Type} {p : Nat → α → Prop} : ∀ n : Nat, (∀ i, i < n → ∃ d, p i d) → ∃ L : List α, L.length = n ∧ ∀ i d, L[i]? = some d → p i d
  | 0, _ => ⟨[], rfl, fun i d h => by simp at h⟩
  | n + 1, h => by
    obtain ⟨L, hl, hp⟩ := choose_list n fun i hi => h i (by omega)
    obtain ⟨d, hd⟩ := h n (by omega)
    refine ⟨L ++ [d], by simp [hl], fun i e he => ?_⟩
    rcases Nat.lt_or_ge i n with hi | hi
    · rw [List.getElem?_append_left (by omega)] at he
      exact hp i e he
    · rw [List.getElem?_append_right (by omega)] at he
      have : i = n := by
        rcases Nat.lt_or_ge (i - L.length) 1 with h1 | h1
        · omega
        · rw [List.getElem?_eq_none (by simpa using h1)] at he; cases he
      subst this
      rw [hl, Nat.sub_self] at he
      simp at he
      subst he
      exact hd
section
variable {H : Type} {enc : TypeId × Value → H} {w : World}
theorem asks_of_trod {fuel : Nat} {cs : List Value} {x : DataW H × List MemPlace} (h : DataW.trod enc Try.prog w 0 (fun _ => true) true fuel 26 cs = some x) :
    ∃ A n c L, cs = [.slice A n c] ∧ Asks w w.heap.size A n c L := by
  rcases open_slice Try.underlying26 h with ⟨rfl, _⟩ | ⟨a, len, cap, m, n, D, Pl, rfl, _, hl, hm, hmm, _, hi⟩
  · exact ⟨none, 0, 0, [], rfl, rfl, Nat.le_refl _, by unfold maxLen; omega, fun _ => rfl, fun h => absurd h (by omega)⟩
  · obtain rfl : m = cap := by simpa using hmm
    have hC : Try.prog.cellsOf 25 = 4 := by kernel_rfl
    have c3 : Try.prog.cellsOf 3 = 1 := by kernel_rfl
    have c22 : Try.prog.cellsOf 22 = 1 := by kernel_rfl
    have c23 : Try.prog.cellsOf 23 = 1 := by kernel_rfl
    have c5 : Try.prog.cellsOf 5 = 1 := by kernel_rfl
    rw [hC] at hi
    obtain ⟨b, off, spot⟩ := a
    have hspot : 0 < len → spot = none := by
      intro hp
      obtain ⟨cs', hc, _⟩ := hi 0 (by omega)
      obtain ⟨_, hcl, hat⟩ := World.cells?_some hc
      have h0 := hat 0 (by omega)
      rw [List.getElem?_eq_getElem (by omega)] at h0
      simpa [Addr.add] using World.cell?_spot h0
    have each : ∀ i, i < len → ∃ d, spot = none ∧ b < w.heap.size ∧ AskAt w w.heap.size b (off + i * 4) d := by
      intro i hil
      obtain ⟨cs', hc, ht⟩ := hi i (by omega)
      obtain ⟨ys, n', _, _, hlen, hyl, hf⟩ := DataW.trod_struct Try.underlying25 ht
      obtain ⟨_, hcl, hat⟩ := World.cells?_some hc
      match cs', hcl with
      | [u0, u1, u2, u3], _ =>
        match ys, hyl with
        | [y0, y1, y2, y3], _ =>
          have h0 : DataW.trod enc Try.prog w 0 (fun _ => true) true n' 3 (([u0, u1, u2, u3].drop 0).take (Try.prog.cellsOf 3)) = some y0 := hf 0 _ rfl
          have h1 : DataW.trod enc Try.prog w 0 (fun _ => true) true n' 3 (([u0, u1, u2, u3].drop 1).take (Try.prog.cellsOf 3)) = some y1 := hf 1 _ rfl
          have h2 : DataW.trod enc Try.prog w 0 (fun _ => true) true n' 22 (([u0, u1, u2, u3].drop 2).take (Try.prog.cellsOf 22)) = some y2 := hf 2 _ rfl
          have h3 : DataW.trod enc Try.prog w 0 (fun _ => true) true n' 23 (([u0, u1, u2, u3].drop 3).take (Try.prog.cellsOf 23)) = some y3 := hf 3 _ rfl
          rw [c3] at h0 h1
          rw [c22] at h2
          rw [c23] at h3
          obtain ⟨k, hk, _, wk⟩ := DataW.trod_int Try.underlying3 h0
          obtain ⟨nn, hn, _, wn⟩ := DataW.trod_int Try.underlying3 h1
          obtain ⟨xx, hx, _, wx⟩ := DataW.trod_int Try.underlying22 h2
          obtain ⟨A, l, c, bs, hA, hr⟩ := inRow_of_trod Try.underlying23 Try.underlying5 c5 h3
          obtain rfl : u0 = .int .i64 k := by simpa using hk
          obtain rfl : u1 = .int .i64 nn := by simpa using hn
          obtain rfl : u2 = .int .u64 xx := by simpa using hx
          obtain rfl : u3 = .slice A l c := by simpa using hA
          have a0 := hat 0 (by omega)
          have a1 := hat 1 (by omega)
          have a2 := hat 2 (by omega)
          have a3 := hat 3 (by omega)
          have hs : spot = none := hspot (by omega)
          subst hs
          rw [addr_add] at a0 a1 a2 a3
          rw [addr_add] at a0 a1 a2 a3
          have b1 := bounds_i64 wk
          have b2 := bounds_i64 wn
          have b3 := bounds_u64 wx
          exact ⟨⟨k, nn, xx, A, l, c, bs⟩, rfl, cell_lt a0, a0, a1, a2, a3, hr.1, hr.2.1, hr.2.2.1, hr.2.2.2, b1.1, b1.2, b2.1, b2.2, b3.1, (by have := b3.2; show xx < _; omega)⟩
    obtain ⟨L, hL, hp⟩ := choose_list len each
    refine ⟨_, len, m, L, rfl, hL, hl, hm, fun h => (by cases h), fun hpos => ?_⟩
    obtain ⟨d, hd⟩ : ∃ d, L[0]? = some d := ⟨_, List.getElem?_eq_getElem (by omega)⟩
    obtain ⟨hs, hb, _⟩ := hp 0 d hd
    subst hs
    exact ⟨b, off, rfl, hb, fun i d hd => (hp i d hd).2.2⟩
end
end Go.Proofs.Ytijpfdjmfnokkaa
