/-
  A frame that is right, as bytes, by the document's own answer (narthexref4.One): all kinds but Ack.
-/
import Derived.Test.YtbejpafephofaaaGreatFqv
import Derived.Test.YtbejpafephofaaaGreatMq24
import Derived.Test.YtbejpafephofaaaGreatWrite
import Derived.Test.YtbejpafephofaaaGreatMq25
namespace Go.Proofs.YtbejpafephofaaaGreat
set_option linter.unusedVariables false
set_option linter.unusedSimpArgs false
open Go.RowKit
def VPost (base : Nat) (bs : List Int) (w : World) (e : Ending) (w' : World) : Prop := ∃ A n c, e = .returned (.slice A n c) ∧ bs.length = n ∧ Own w' base 5 (.slice A n c) bs ∧ Rd w' w'.heap.size A n bs ∧ Below w.heap.size w w'
theorem rvs_new (A : Option Addr) (m c : Nat) (bs xs : List Int) (cs : Array Value) (n : Nat) (wk : World) (base g : Nat) (hg : g = wk.heap.size) (hr : Rd wk wk.heap.size A m bs) (hm : m ≤ 100000000000) (hcs : cs = (xs.map (Value.int .u64)).toArray)
    (hb : ∀ x ∈ xs, 0 ≤ x ∧ x ≤ 4611686018427387903) (hn : xs.length = n) (hn1 : 1 ≤ n) (hn2 : n ≤ 10) (hbase : base ≤ wk.heap.size) :
    Calls Tryz.prog 58 #[.slice A m c, .slice (some ⟨g, 0, none⟩) n n] (wk.alloc (.cells cs 26)) (VPost base (bs ++ putL xs) wk) := by
  subst hg
  have hu := UsP.new wk (fun _ => True) 26 xs (fun x hx => by have := hb x hx; omega) cs hcs wk.heap.size rfl trivial
  rw [hn] at hu
  have hb0 : Below wk.heap.size wk (wk.alloc (.cells cs 26)) := (Below.refl _ _).alloc (Nat.le_refl _) _
  refine (rvs_any _ A m c bs _ n n xs _ base ((hr.below hb0).more hb0.size) hm hu (by omega) hn1 (Nat.le_refl _) ?_ (by have := hb0.size; omega)).mono ?_
  · unfold smL
    rw [List.all_eq_true]
    intro x hx
    simpa using (hb x hx).2
  · rintro e w' ⟨v, rfl, hO, hB⟩
    obtain ⟨A', c', rfl, _, _, hR⟩ := hO.open_n _ rfl
    exact ⟨A', _, c', rfl, rfl, hO, hR, hb0.trans (hB.mono hb0.size)⟩
set_option maxRecDepth 100000 in
set_option maxHeartbeats 2000000 in
theorem rone_4 (P : Nat → Prop) (s o l c f q y c0 c1 c2 c3 c4 c5 c6 c7 : Int) (fin : Bool) (dA : Option Addr) (dn dc : Nat) (rA : Option Addr) (rn rc : Nat) (ds : List Int) (rs : RS) (w : World) (hf : Fits w P ⟨4, s, o, fin, l, c, f, q, y, c0, c1, c2, c3, c4, c5, c6, c7⟩ ⟨dA, dn, dc⟩ ⟨rA, rn, rc⟩ ds rs) (hr : rightB ⟨4, s, o, fin, l, c, f, q, y, c0, c1, c2, c3, c4, c5, c6, c7⟩ ds rs = true) :
    Calls Tryz.prog 46 #[frV ⟨4, s, o, fin, l, c, f, q, y, c0, c1, c2, c3, c4, c5, c6, c7⟩ ⟨dA, dn, dc⟩ ⟨rA, rn, rc⟩] w (VPost w.heap.size (oneS ⟨4, s, o, fin, l, c, f, q, y, c0, c1, c2, c3, c4, c5, c6, c7⟩ ds rs) w) := by
  obtain ⟨hwf, hdt, hrg⟩ := hf
  have s0 := hwf.s0
  have o0 := hwf.o0
  have l0 := hwf.l0
  have c_0 := hwf.c0
  have f0 := hwf.f0
  have q0 := hwf.q0
  have y0 := hwf.y0
  have hcid : Byt (cidL ⟨4, s, o, fin, l, c, f, q, y, c0, c1, c2, c3, c4, c5, c6, c7⟩) := hwf.cid
  simp only at s0 o0 l0 c_0 f0 q0 y0
  rw [rightB_4 s o l c f q y c0 c1 c2 c3 c4 c5 c6 c7 fin ds rs dn hdt.rd.len s0 o0 l0 c_0 f0 q0 y0] at hr
  have hbd : s ≤ 4611686018427387903 ∧ c ≤ 4611686018427387903 ∧ f ≤ 1099511627776 := by simp [smL] at hr; omega
  have hdr := hdt.rd.1
  simp only at hdr
  obtain ⟨E, hE⟩ : ∃ E, oneS ⟨4, s, o, fin, l, c, f, q, y, c0, c1, c2, c3, c4, c5, c6, c7⟩ ds rs = E := ⟨_, rfl⟩
  have HE : Hid (E = [] ++ putL [4] ++ putL [s, c, f]) := Lib.hid (by rw [← hE]; simp [oneS, bodyS, wkS, putL, cidL])
  rw [hE]
  have hb0 : Below w.heap.size w (w.alloc (.cells #[.int .i64 4, .int .u64 s, .int .u64 o, .slice dA dn dc, .bool fin, .int .u64 l, .int .u64 c, .int .u64 f, .int .u64 q, .int .u64 y, .slice rA rn rc,
      .int .u8 c0, .int .u8 c1, .int .u8 c2, .int .u8 c3, .int .u8 c4, .int .u8 c5, .int .u8 c6, .int .u8 c7] 51)) := (Below.refl _ _).alloc (Nat.le_refl _) _
  have hA0 : At (w.alloc (.cells #[.int .i64 4, .int .u64 s, .int .u64 o, .slice dA dn dc, .bool fin, .int .u64 l, .int .u64 c, .int .u64 f, .int .u64 q, .int .u64 y, .slice rA rn rc,
      .int .u8 c0, .int .u8 c1, .int .u8 c2, .int .u8 c3, .int .u8 c4, .int .u8 c5, .int .u8 c6, .int .u8 c7] 51)) w.heap.size 51 (frL ⟨4, s, o, fin, l, c, f, q, y, c0, c1, c2, c3, c4, c5, c6, c7⟩ ⟨dA, dn, dc⟩ ⟨rA, rn, rc⟩) := At.new w _ _
  have hs0 : (w.alloc (.cells #[.int .i64 4, .int .u64 s, .int .u64 o, .slice dA dn dc, .bool fin, .int .u64 l, .int .u64 c, .int .u64 f, .int .u64 q, .int .u64 y, .slice rA rn rc,
      .int .u8 c0, .int .u8 c1, .int .u8 c2, .int .u8 c3, .int .u8 c4, .int .u8 c5, .int .u8 c6, .int .u8 c7] 51)).heap.size = w.heap.size + 1 := by simp
  have HA0 := Lib.hid hA0
  have HB0 := Lib.hid hb0
  have HS0 := Lib.hid hs0
  have HD := Lib.hid hdr
  have HCB := Lib.hid hcid
  simp only [frV, frL]
  have h1 := rvs_new none 0 0 [] [4] #[.int .u64 4] 1 (w.alloc (.cells #[.int .i64 4, .int .u64 s, .int .u64 o, .slice dA dn dc, .bool fin, .int .u64 l, .int .u64 c, .int .u64 f, .int .u64 q, .int .u64 y, .slice rA rn rc,
        .int .u8 c0, .int .u8 c1, .int .u8 c2, .int .u8 c3, .int .u8 c4, .int .u8 c5, .int .u8 c6, .int .u8 c7] 51)) w.heap.size (w.heap.size + 1) (by simp) (Rd.none_ _ _ _) (by decide) rfl (by intro x hx; simp at hx; omega) rfl (by decide) (by decide) (by omega)
  have H1 := Lib.hid h1
  clear h1 hb0 hA0 hs0 hwf hdt hrg hdr hr hE hcid
  go_enter Tryz.func46, Tryz.ntmps46
  go_wp2_with fail
  refine H1.out.mono ?_
  rintro e w1 ⟨A1, n1, a1, rfl, hn1, hO1, hR1, hB1⟩
  have hA1 := HA0.out.below hB1 (by rw [HS0.out]; omega)
  have hB1 := HB0.out.trans (hB1.mono (by rw [HS0.out]; omega))
  have hs1 := hB1.size
  have ek : w1.cell? ⟨w.heap.size, 0, none⟩ = some (.int .i64 4) := (hA1.cell 0).trans rfl
  have e1s : w1.cell? ⟨w.heap.size, 1, none⟩ = some (.int .u64 s) := (hA1.cell 1).trans rfl
  have e1c : w1.cell? ⟨w.heap.size, 6, none⟩ = some (.int .u64 c) := (hA1.cell 6).trans rfl
  have e1f : w1.cell? ⟨w.heap.size, 7, none⟩ = some (.int .u64 f) := (hA1.cell 7).trans rfl
  have hg1 := hA1.lt
  have hm1 : n1 ≤ 100000 := by
    rw [← hn1]
    have := putL_len [(4 : Int)]
    simp only [List.length_append, List.length_cons, List.length_nil] at *
    omega
  go_wp2_with fail
  refine (rvs_new A1 n1 a1 ([] ++ putL [4]) [s, c, f] _ 3 w1 w.heap.size _ rfl hR1 (by omega) rfl (by intro x hx; simp at hx; omega) rfl (by decide) (by decide) (by omega)).mono ?_
  rintro e w2 ⟨A2, n2, a2, rfl, hn2, hO2, hR2, hB2⟩
  have hA2 := hA1.below hB2 hA1.lt
  have hB2 := hB1.trans (hB2.mono hB1.size)
  have hs2 := hB2.size
  have hg2 := hA2.lt
  go_wp2_with fail
  go_ret
  rw [HE.out]
  exact ⟨A2, n2, a2, rfl, hn2, hO2, hR2, hB2⟩
end Go.Proofs.YtbejpafephofaaaGreat
