/-
  A frame that is right, as bytes, by the document's own answer (narthexref4.One): all kinds but Ack.
-/
import Derived.Test.YtkahndjflhgccaaFqv
import Derived.Test.YtkahndjflhgccaaFqk
import Derived.Test.YtkahndjflhgccaaMf
import Derived.Test.YtkahndjflhgccaaMd
namespace Go.Proofs.Ytkahndjflhgccaa
set_option linter.unusedVariables false
set_option linter.unusedSimpArgs false
open Go.RowKit
def VPost (base : Nat) (bs : List Int) (w : World) (e : Ending) (w' : World) : Prop := ∃ A n c, e = .returned (.slice A n c) ∧ bs.length = n ∧ Own w' base 5 (.slice A n c) bs ∧ Rd w' w'.heap.size A n bs ∧ Below w.heap.size w w'
theorem rvs_new (A : Option Addr) (m c : Nat) (bs xs : List Int) (cs : Array Value) (n : Nat) (wk : World) (base g : Nat) (hg : g = wk.heap.size) (hr : Rd wk wk.heap.size A m bs) (hm : m ≤ 100000000000) (hcs : cs = (xs.map (Value.int .u64)).toArray)
    (hb : ∀ x ∈ xs, 0 ≤ x ∧ x ≤ 4611686018427387903) (hn : xs.length = n) (hn1 : 1 ≤ n) (hn2 : n ≤ 10) (hbase : base ≤ wk.heap.size) :
    Calls Try.prog 35 #[.slice A m c, .slice (some ⟨g, 0, none⟩) n n] (wk.alloc (.cells cs 25)) (VPost base (bs ++ putL xs) wk) := by
  subst hg
  have hu := UsP.new wk (fun _ => True) 25 xs (fun x hx => by have := hb x hx; omega) cs hcs wk.heap.size rfl trivial
  rw [hn] at hu
  have hb0 : Below wk.heap.size wk (wk.alloc (.cells cs 25)) := (Below.refl _ _).alloc (Nat.le_refl _) _
  refine (rvs_any _ A m c bs _ n n xs _ base ((hr.below hb0).more hb0.size) hm hu (by omega) hn1 (Nat.le_refl _) ?_ (by have := hb0.size; omega)).mono ?_
  · unfold smL
    rw [List.all_eq_true]
    intro x hx
    simpa using (hb x hx).2
  · rintro e w' ⟨v, rfl, hO, hB⟩
    obtain ⟨A', c', rfl, _, _, hR⟩ := hO.open_n _ rfl
    exact ⟨A', _, c', rfl, rfl, hO, hR, hb0.trans (hB.mono hb0.size)⟩
theorem rtx_new (A : Option Addr) (m c : Nat) (bs : List Int) (A' : Option Addr) (n' c' : Nat) (xs : List Int) (w : World) (base : Nat) (hr : Rd w w.heap.size A m bs) (hr' : Rd w w.heap.size A' n' xs) (hm : m ≤ 100000000000) (hn : n' ≤ 100000000000) (hbase : base ≤ w.heap.size) :
    Calls Try.prog 36 #[.slice A m c, .slice A' n' c'] w (VPost base (bs ++ textB xs) w) := by
  refine (rtext2_any A m c bs A' n' c' xs w hr hr' (by omega) (by omega)).mono ?_
  rintro e w' ⟨v, rfl, hO, hB⟩
  obtain ⟨A', c', rfl, _, _, hR⟩ := hO.open_n _ rfl
  exact ⟨A', _, c', rfl, rfl, hO.base_ hbase, hR, hB⟩
set_option maxRecDepth 100000 in
set_option maxHeartbeats 2000000 in
theorem rone_0 (P : Nat → Prop) (s o l c f q y c0 c1 c2 c3 c4 c5 c6 c7 : Int) (fin : Bool) (dA : Option Addr) (dn dc : Nat) (rA : Option Addr) (rn rc : Nat) (ds : List Int) (rs : RS) (w : World) (hf : Fits w P ⟨0, s, o, fin, l, c, f, q, y, c0, c1, c2, c3, c4, c5, c6, c7⟩ ⟨dA, dn, dc⟩ ⟨rA, rn, rc⟩ ds rs) (hr : rightB ⟨0, s, o, fin, l, c, f, q, y, c0, c1, c2, c3, c4, c5, c6, c7⟩ ds rs = true) :
    Calls Try.prog 12 #[frV ⟨0, s, o, fin, l, c, f, q, y, c0, c1, c2, c3, c4, c5, c6, c7⟩ ⟨dA, dn, dc⟩ ⟨rA, rn, rc⟩] w (VPost w.heap.size (oneS ⟨0, s, o, fin, l, c, f, q, y, c0, c1, c2, c3, c4, c5, c6, c7⟩ ds rs) w) := by
  obtain ⟨hwf, hdt, hrg⟩ := hf
  have s0 := hwf.s0
  have o0 := hwf.o0
  have l0 := hwf.l0
  have c_0 := hwf.c0
  have f0 := hwf.f0
  have q0 := hwf.q0
  have y0 := hwf.y0
  have hcid : Byt (cidL ⟨0, s, o, fin, l, c, f, q, y, c0, c1, c2, c3, c4, c5, c6, c7⟩) := hwf.cid
  simp only at s0 o0 l0 c_0 f0 q0 y0
  rw [rightB_0 s o l c f q y c0 c1 c2 c3 c4 c5 c6 c7 fin ds rs dn hdt.rd.len s0 o0 l0 c_0 f0 q0 y0] at hr
  have hbd : True := by trivial
  have hdr := hdt.rd.1
  simp only at hdr
  obtain ⟨E, hE⟩ : ∃ E, oneS ⟨0, s, o, fin, l, c, f, q, y, c0, c1, c2, c3, c4, c5, c6, c7⟩ ds rs = E := ⟨_, rfl⟩
  have HE : Hid (E = [] ++ putL [0]) := Lib.hid (by rw [← hE]; simp [oneS, bodyS, wkS, putL, cidL])
  rw [hE]
  have hb0 : Below w.heap.size w (w.alloc (.cells #[.int .i64 0, .int .u64 s, .int .u64 o, .slice dA dn dc, .bool fin, .int .u64 l, .int .u64 c, .int .u64 f, .int .u64 q, .int .u64 y, .slice rA rn rc,
      .int .u8 c0, .int .u8 c1, .int .u8 c2, .int .u8 c3, .int .u8 c4, .int .u8 c5, .int .u8 c6, .int .u8 c7] 31)) := (Below.refl _ _).alloc (Nat.le_refl _) _
  have hA0 : At (w.alloc (.cells #[.int .i64 0, .int .u64 s, .int .u64 o, .slice dA dn dc, .bool fin, .int .u64 l, .int .u64 c, .int .u64 f, .int .u64 q, .int .u64 y, .slice rA rn rc,
      .int .u8 c0, .int .u8 c1, .int .u8 c2, .int .u8 c3, .int .u8 c4, .int .u8 c5, .int .u8 c6, .int .u8 c7] 31)) w.heap.size 31 (frL ⟨0, s, o, fin, l, c, f, q, y, c0, c1, c2, c3, c4, c5, c6, c7⟩ ⟨dA, dn, dc⟩ ⟨rA, rn, rc⟩) := At.new w _ _
  have hs0 : (w.alloc (.cells #[.int .i64 0, .int .u64 s, .int .u64 o, .slice dA dn dc, .bool fin, .int .u64 l, .int .u64 c, .int .u64 f, .int .u64 q, .int .u64 y, .slice rA rn rc,
      .int .u8 c0, .int .u8 c1, .int .u8 c2, .int .u8 c3, .int .u8 c4, .int .u8 c5, .int .u8 c6, .int .u8 c7] 31)).heap.size = w.heap.size + 1 := by simp
  have HA0 := Lib.hid hA0
  have HB0 := Lib.hid hb0
  have HS0 := Lib.hid hs0
  have HD := Lib.hid hdr
  have HCB := Lib.hid hcid
  simp only [frV, frL]
  have h1 := rvs_new none 0 0 [] [0] #[.int .u64 0] 1 (w.alloc (.cells #[.int .i64 0, .int .u64 s, .int .u64 o, .slice dA dn dc, .bool fin, .int .u64 l, .int .u64 c, .int .u64 f, .int .u64 q, .int .u64 y, .slice rA rn rc,
        .int .u8 c0, .int .u8 c1, .int .u8 c2, .int .u8 c3, .int .u8 c4, .int .u8 c5, .int .u8 c6, .int .u8 c7] 31)) w.heap.size (w.heap.size + 1) (by simp) (Rd.none_ _ _ _) (by decide) rfl (by intro x hx; simp at hx; omega) rfl (by decide) (by decide) (by omega)
  have H1 := Lib.hid h1
  clear h1 hb0 hA0 hs0 hwf hdt hrg hdr hr hE hcid
  go_enter Try.func12, Try.ntmps12
  go_wp2_with fail
  refine H1.out.mono ?_
  rintro e w1 ⟨A1, n1, a1, rfl, hn1, hO1, hR1, hB1⟩
  have hA1 := HA0.out.below hB1 (by rw [HS0.out]; omega)
  have hB1 := HB0.out.trans (hB1.mono (by rw [HS0.out]; omega))
  have hs1 := hB1.size
  have ek : w1.cell? ⟨w.heap.size, 0, none⟩ = some (.int .i64 0) := (hA1.cell 0).trans rfl
  have hg1 := hA1.lt
  go_wp2_with fail
  go_ret
  rw [HE.out]
  exact ⟨A1, n1, a1, rfl, hn1, hO1, hR1, hB1⟩
set_option maxRecDepth 100000 in
set_option maxHeartbeats 2000000 in
theorem rone_1 (P : Nat → Prop) (s o l c f q y c0 c1 c2 c3 c4 c5 c6 c7 : Int) (fin : Bool) (dA : Option Addr) (dn dc : Nat) (rA : Option Addr) (rn rc : Nat) (ds : List Int) (rs : RS) (w : World) (hf : Fits w P ⟨1, s, o, fin, l, c, f, q, y, c0, c1, c2, c3, c4, c5, c6, c7⟩ ⟨dA, dn, dc⟩ ⟨rA, rn, rc⟩ ds rs) (hr : rightB ⟨1, s, o, fin, l, c, f, q, y, c0, c1, c2, c3, c4, c5, c6, c7⟩ ds rs = true) :
    Calls Try.prog 12 #[frV ⟨1, s, o, fin, l, c, f, q, y, c0, c1, c2, c3, c4, c5, c6, c7⟩ ⟨dA, dn, dc⟩ ⟨rA, rn, rc⟩] w (VPost w.heap.size (oneS ⟨1, s, o, fin, l, c, f, q, y, c0, c1, c2, c3, c4, c5, c6, c7⟩ ds rs) w) := by
  obtain ⟨hwf, hdt, hrg⟩ := hf
  have s0 := hwf.s0
  have o0 := hwf.o0
  have l0 := hwf.l0
  have c_0 := hwf.c0
  have f0 := hwf.f0
  have q0 := hwf.q0
  have y0 := hwf.y0
  have hcid : Byt (cidL ⟨1, s, o, fin, l, c, f, q, y, c0, c1, c2, c3, c4, c5, c6, c7⟩) := hwf.cid
  simp only at s0 o0 l0 c_0 f0 q0 y0
  rw [rightB_1 s o l c f q y c0 c1 c2 c3 c4 c5 c6 c7 fin ds rs dn hdt.rd.len s0 o0 l0 c_0 f0 q0 y0] at hr
  have hbd : True := by trivial
  have hdr := hdt.rd.1
  simp only at hdr
  obtain ⟨E, hE⟩ : ∃ E, oneS ⟨1, s, o, fin, l, c, f, q, y, c0, c1, c2, c3, c4, c5, c6, c7⟩ ds rs = E := ⟨_, rfl⟩
  have HE : Hid (E = [] ++ putL [1]) := Lib.hid (by rw [← hE]; simp [oneS, bodyS, wkS, putL, cidL])
  rw [hE]
  have hb0 : Below w.heap.size w (w.alloc (.cells #[.int .i64 1, .int .u64 s, .int .u64 o, .slice dA dn dc, .bool fin, .int .u64 l, .int .u64 c, .int .u64 f, .int .u64 q, .int .u64 y, .slice rA rn rc,
      .int .u8 c0, .int .u8 c1, .int .u8 c2, .int .u8 c3, .int .u8 c4, .int .u8 c5, .int .u8 c6, .int .u8 c7] 31)) := (Below.refl _ _).alloc (Nat.le_refl _) _
  have hA0 : At (w.alloc (.cells #[.int .i64 1, .int .u64 s, .int .u64 o, .slice dA dn dc, .bool fin, .int .u64 l, .int .u64 c, .int .u64 f, .int .u64 q, .int .u64 y, .slice rA rn rc,
      .int .u8 c0, .int .u8 c1, .int .u8 c2, .int .u8 c3, .int .u8 c4, .int .u8 c5, .int .u8 c6, .int .u8 c7] 31)) w.heap.size 31 (frL ⟨1, s, o, fin, l, c, f, q, y, c0, c1, c2, c3, c4, c5, c6, c7⟩ ⟨dA, dn, dc⟩ ⟨rA, rn, rc⟩) := At.new w _ _
  have hs0 : (w.alloc (.cells #[.int .i64 1, .int .u64 s, .int .u64 o, .slice dA dn dc, .bool fin, .int .u64 l, .int .u64 c, .int .u64 f, .int .u64 q, .int .u64 y, .slice rA rn rc,
      .int .u8 c0, .int .u8 c1, .int .u8 c2, .int .u8 c3, .int .u8 c4, .int .u8 c5, .int .u8 c6, .int .u8 c7] 31)).heap.size = w.heap.size + 1 := by simp
  have HA0 := Lib.hid hA0
  have HB0 := Lib.hid hb0
  have HS0 := Lib.hid hs0
  have HD := Lib.hid hdr
  have HCB := Lib.hid hcid
  simp only [frV, frL]
  have h1 := rvs_new none 0 0 [] [1] #[.int .u64 1] 1 (w.alloc (.cells #[.int .i64 1, .int .u64 s, .int .u64 o, .slice dA dn dc, .bool fin, .int .u64 l, .int .u64 c, .int .u64 f, .int .u64 q, .int .u64 y, .slice rA rn rc,
        .int .u8 c0, .int .u8 c1, .int .u8 c2, .int .u8 c3, .int .u8 c4, .int .u8 c5, .int .u8 c6, .int .u8 c7] 31)) w.heap.size (w.heap.size + 1) (by simp) (Rd.none_ _ _ _) (by decide) rfl (by intro x hx; simp at hx; omega) rfl (by decide) (by decide) (by omega)
  have H1 := Lib.hid h1
  clear h1 hb0 hA0 hs0 hwf hdt hrg hdr hr hE hcid
  go_enter Try.func12, Try.ntmps12
  go_wp2_with fail
  refine H1.out.mono ?_
  rintro e w1 ⟨A1, n1, a1, rfl, hn1, hO1, hR1, hB1⟩
  have hA1 := HA0.out.below hB1 (by rw [HS0.out]; omega)
  have hB1 := HB0.out.trans (hB1.mono (by rw [HS0.out]; omega))
  have hs1 := hB1.size
  have ek : w1.cell? ⟨w.heap.size, 0, none⟩ = some (.int .i64 1) := (hA1.cell 0).trans rfl
  have hg1 := hA1.lt
  go_wp2_with fail
  go_ret
  rw [HE.out]
  exact ⟨A1, n1, a1, rfl, hn1, hO1, hR1, hB1⟩
set_option maxRecDepth 100000 in
set_option maxHeartbeats 2000000 in
theorem rone_30 (P : Nat → Prop) (s o l c f q y c0 c1 c2 c3 c4 c5 c6 c7 : Int) (fin : Bool) (dA : Option Addr) (dn dc : Nat) (rA : Option Addr) (rn rc : Nat) (ds : List Int) (rs : RS) (w : World) (hf : Fits w P ⟨30, s, o, fin, l, c, f, q, y, c0, c1, c2, c3, c4, c5, c6, c7⟩ ⟨dA, dn, dc⟩ ⟨rA, rn, rc⟩ ds rs) (hr : rightB ⟨30, s, o, fin, l, c, f, q, y, c0, c1, c2, c3, c4, c5, c6, c7⟩ ds rs = true) :
    Calls Try.prog 12 #[frV ⟨30, s, o, fin, l, c, f, q, y, c0, c1, c2, c3, c4, c5, c6, c7⟩ ⟨dA, dn, dc⟩ ⟨rA, rn, rc⟩] w (VPost w.heap.size (oneS ⟨30, s, o, fin, l, c, f, q, y, c0, c1, c2, c3, c4, c5, c6, c7⟩ ds rs) w) := by
  obtain ⟨hwf, hdt, hrg⟩ := hf
  have s0 := hwf.s0
  have o0 := hwf.o0
  have l0 := hwf.l0
  have c_0 := hwf.c0
  have f0 := hwf.f0
  have q0 := hwf.q0
  have y0 := hwf.y0
  have hcid : Byt (cidL ⟨30, s, o, fin, l, c, f, q, y, c0, c1, c2, c3, c4, c5, c6, c7⟩) := hwf.cid
  simp only at s0 o0 l0 c_0 f0 q0 y0
  rw [rightB_30 s o l c f q y c0 c1 c2 c3 c4 c5 c6 c7 fin ds rs dn hdt.rd.len s0 o0 l0 c_0 f0 q0 y0] at hr
  have hbd : True := by trivial
  have hdr := hdt.rd.1
  simp only at hdr
  obtain ⟨E, hE⟩ : ∃ E, oneS ⟨30, s, o, fin, l, c, f, q, y, c0, c1, c2, c3, c4, c5, c6, c7⟩ ds rs = E := ⟨_, rfl⟩
  have HE : Hid (E = [] ++ putL [30]) := Lib.hid (by rw [← hE]; simp [oneS, bodyS, wkS, putL, cidL])
  rw [hE]
  have hb0 : Below w.heap.size w (w.alloc (.cells #[.int .i64 30, .int .u64 s, .int .u64 o, .slice dA dn dc, .bool fin, .int .u64 l, .int .u64 c, .int .u64 f, .int .u64 q, .int .u64 y, .slice rA rn rc,
      .int .u8 c0, .int .u8 c1, .int .u8 c2, .int .u8 c3, .int .u8 c4, .int .u8 c5, .int .u8 c6, .int .u8 c7] 31)) := (Below.refl _ _).alloc (Nat.le_refl _) _
  have hA0 : At (w.alloc (.cells #[.int .i64 30, .int .u64 s, .int .u64 o, .slice dA dn dc, .bool fin, .int .u64 l, .int .u64 c, .int .u64 f, .int .u64 q, .int .u64 y, .slice rA rn rc,
      .int .u8 c0, .int .u8 c1, .int .u8 c2, .int .u8 c3, .int .u8 c4, .int .u8 c5, .int .u8 c6, .int .u8 c7] 31)) w.heap.size 31 (frL ⟨30, s, o, fin, l, c, f, q, y, c0, c1, c2, c3, c4, c5, c6, c7⟩ ⟨dA, dn, dc⟩ ⟨rA, rn, rc⟩) := At.new w _ _
  have hs0 : (w.alloc (.cells #[.int .i64 30, .int .u64 s, .int .u64 o, .slice dA dn dc, .bool fin, .int .u64 l, .int .u64 c, .int .u64 f, .int .u64 q, .int .u64 y, .slice rA rn rc,
      .int .u8 c0, .int .u8 c1, .int .u8 c2, .int .u8 c3, .int .u8 c4, .int .u8 c5, .int .u8 c6, .int .u8 c7] 31)).heap.size = w.heap.size + 1 := by simp
  have HA0 := Lib.hid hA0
  have HB0 := Lib.hid hb0
  have HS0 := Lib.hid hs0
  have HD := Lib.hid hdr
  have HCB := Lib.hid hcid
  simp only [frV, frL]
  have h1 := rvs_new none 0 0 [] [30] #[.int .u64 30] 1 (w.alloc (.cells #[.int .i64 30, .int .u64 s, .int .u64 o, .slice dA dn dc, .bool fin, .int .u64 l, .int .u64 c, .int .u64 f, .int .u64 q, .int .u64 y, .slice rA rn rc,
        .int .u8 c0, .int .u8 c1, .int .u8 c2, .int .u8 c3, .int .u8 c4, .int .u8 c5, .int .u8 c6, .int .u8 c7] 31)) w.heap.size (w.heap.size + 1) (by simp) (Rd.none_ _ _ _) (by decide) rfl (by intro x hx; simp at hx; omega) rfl (by decide) (by decide) (by omega)
  have H1 := Lib.hid h1
  clear h1 hb0 hA0 hs0 hwf hdt hrg hdr hr hE hcid
  go_enter Try.func12, Try.ntmps12
  go_wp2_with fail
  refine H1.out.mono ?_
  rintro e w1 ⟨A1, n1, a1, rfl, hn1, hO1, hR1, hB1⟩
  have hA1 := HA0.out.below hB1 (by rw [HS0.out]; omega)
  have hB1 := HB0.out.trans (hB1.mono (by rw [HS0.out]; omega))
  have hs1 := hB1.size
  have ek : w1.cell? ⟨w.heap.size, 0, none⟩ = some (.int .i64 30) := (hA1.cell 0).trans rfl
  have hg1 := hA1.lt
  go_wp2_with fail
  go_ret
  rw [HE.out]
  exact ⟨A1, n1, a1, rfl, hn1, hO1, hR1, hB1⟩
set_option maxRecDepth 100000 in
set_option maxHeartbeats 2000000 in
theorem rone_4 (P : Nat → Prop) (s o l c f q y c0 c1 c2 c3 c4 c5 c6 c7 : Int) (fin : Bool) (dA : Option Addr) (dn dc : Nat) (rA : Option Addr) (rn rc : Nat) (ds : List Int) (rs : RS) (w : World) (hf : Fits w P ⟨4, s, o, fin, l, c, f, q, y, c0, c1, c2, c3, c4, c5, c6, c7⟩ ⟨dA, dn, dc⟩ ⟨rA, rn, rc⟩ ds rs) (hr : rightB ⟨4, s, o, fin, l, c, f, q, y, c0, c1, c2, c3, c4, c5, c6, c7⟩ ds rs = true) :
    Calls Try.prog 12 #[frV ⟨4, s, o, fin, l, c, f, q, y, c0, c1, c2, c3, c4, c5, c6, c7⟩ ⟨dA, dn, dc⟩ ⟨rA, rn, rc⟩] w (VPost w.heap.size (oneS ⟨4, s, o, fin, l, c, f, q, y, c0, c1, c2, c3, c4, c5, c6, c7⟩ ds rs) w) := by
  obtain ⟨hwf, hdt, hrg⟩ := hf
  have s0 := hwf.s0
  have o0 := hwf.o0
  have l0 := hwf.l0
  have c_0 := hwf.c0
  have f0 := hwf.f0
  have q0 := hwf.q0
  have y0 := hwf.y0
  have hcid : Byt (cidL ⟨4, s, o, fin, l, c, f, q, y, c0, c1, c2, c3, c4, c5, c6, c7⟩) := hwf.cid
  simp only at s0 o0 l0 c_0 f0 q0 y0
  rw [rightB_4 s o l c f q y c0 c1 c2 c3 c4 c5 c6 c7 fin ds rs dn hdt.rd.len s0 o0 l0 c_0 f0 q0 y0] at hr
  have hbd : s ≤ 4611686018427387903 ∧ c ≤ 4611686018427387903 ∧ f ≤ 1099511627776 := by simp [smL] at hr; omega
  have hdr := hdt.rd.1
  simp only at hdr
  obtain ⟨E, hE⟩ : ∃ E, oneS ⟨4, s, o, fin, l, c, f, q, y, c0, c1, c2, c3, c4, c5, c6, c7⟩ ds rs = E := ⟨_, rfl⟩
  have HE : Hid (E = [] ++ putL [4] ++ putL [s, c, f]) := Lib.hid (by rw [← hE]; simp [oneS, bodyS, wkS, putL, cidL])
  rw [hE]
  have hb0 : Below w.heap.size w (w.alloc (.cells #[.int .i64 4, .int .u64 s, .int .u64 o, .slice dA dn dc, .bool fin, .int .u64 l, .int .u64 c, .int .u64 f, .int .u64 q, .int .u64 y, .slice rA rn rc,
      .int .u8 c0, .int .u8 c1, .int .u8 c2, .int .u8 c3, .int .u8 c4, .int .u8 c5, .int .u8 c6, .int .u8 c7] 31)) := (Below.refl _ _).alloc (Nat.le_refl _) _
  have hA0 : At (w.alloc (.cells #[.int .i64 4, .int .u64 s, .int .u64 o, .slice dA dn dc, .bool fin, .int .u64 l, .int .u64 c, .int .u64 f, .int .u64 q, .int .u64 y, .slice rA rn rc,
      .int .u8 c0, .int .u8 c1, .int .u8 c2, .int .u8 c3, .int .u8 c4, .int .u8 c5, .int .u8 c6, .int .u8 c7] 31)) w.heap.size 31 (frL ⟨4, s, o, fin, l, c, f, q, y, c0, c1, c2, c3, c4, c5, c6, c7⟩ ⟨dA, dn, dc⟩ ⟨rA, rn, rc⟩) := At.new w _ _
  have hs0 : (w.alloc (.cells #[.int .i64 4, .int .u64 s, .int .u64 o, .slice dA dn dc, .bool fin, .int .u64 l, .int .u64 c, .int .u64 f, .int .u64 q, .int .u64 y, .slice rA rn rc,
      .int .u8 c0, .int .u8 c1, .int .u8 c2, .int .u8 c3, .int .u8 c4, .int .u8 c5, .int .u8 c6, .int .u8 c7] 31)).heap.size = w.heap.size + 1 := by simp
  have HA0 := Lib.hid hA0
  have HB0 := Lib.hid hb0
  have HS0 := Lib.hid hs0
  have HD := Lib.hid hdr
  have HCB := Lib.hid hcid
  simp only [frV, frL]
  have h1 := rvs_new none 0 0 [] [4] #[.int .u64 4] 1 (w.alloc (.cells #[.int .i64 4, .int .u64 s, .int .u64 o, .slice dA dn dc, .bool fin, .int .u64 l, .int .u64 c, .int .u64 f, .int .u64 q, .int .u64 y, .slice rA rn rc,
        .int .u8 c0, .int .u8 c1, .int .u8 c2, .int .u8 c3, .int .u8 c4, .int .u8 c5, .int .u8 c6, .int .u8 c7] 31)) w.heap.size (w.heap.size + 1) (by simp) (Rd.none_ _ _ _) (by decide) rfl (by intro x hx; simp at hx; omega) rfl (by decide) (by decide) (by omega)
  have H1 := Lib.hid h1
  clear h1 hb0 hA0 hs0 hwf hdt hrg hdr hr hE hcid
  go_enter Try.func12, Try.ntmps12
  go_wp2_with fail
  refine H1.out.mono ?_
  rintro e w1 ⟨A1, n1, a1, rfl, hn1, hO1, hR1, hB1⟩
  have hA1 := HA0.out.below hB1 (by rw [HS0.out]; omega)
  have hB1 := HB0.out.trans (hB1.mono (by rw [HS0.out]; omega))
  have hs1 := hB1.size
  have ek : w1.cell? ⟨w.heap.size, 0, none⟩ = some (.int .i64 4) := (hA1.cell 0).trans rfl
  have e1s : w1.cell? ⟨w.heap.size, 1, none⟩ = some (.int .u64 s) := (hA1.cell 1).trans rfl
  have e1c : w1.cell? ⟨w.heap.size, 6, none⟩ = some (.int .u64 c) := (hA1.cell 6).trans rfl
  have e1f : w1.cell? ⟨w.heap.size, 7, none⟩ = some (.int .u64 f) := (hA1.cell 7).trans rfl
  have hg1 := hA1.lt
  have hm1 : n1 ≤ 100000 := by
    rw [← hn1]
    have := putL_len [(4 : Int)]
    simp only [List.length_append, List.length_cons, List.length_nil] at *
    omega
  go_wp2_with fail
  refine (rvs_new A1 n1 a1 ([] ++ putL [4]) [s, c, f] _ 3 w1 w.heap.size _ rfl hR1 (by omega) rfl (by intro x hx; simp at hx; omega) rfl (by decide) (by decide) (by omega)).mono ?_
  rintro e w2 ⟨A2, n2, a2, rfl, hn2, hO2, hR2, hB2⟩
  have hA2 := hA1.below hB2 hA1.lt
  have hB2 := hB1.trans (hB2.mono hB1.size)
  have hs2 := hB2.size
  have hg2 := hA2.lt
  go_wp2_with fail
  go_ret
  rw [HE.out]
  exact ⟨A2, n2, a2, rfl, hn2, hO2, hR2, hB2⟩
set_option maxRecDepth 100000 in
set_option maxHeartbeats 2000000 in
theorem rone_5 (P : Nat → Prop) (s o l c f q y c0 c1 c2 c3 c4 c5 c6 c7 : Int) (fin : Bool) (dA : Option Addr) (dn dc : Nat) (rA : Option Addr) (rn rc : Nat) (ds : List Int) (rs : RS) (w : World) (hf : Fits w P ⟨5, s, o, fin, l, c, f, q, y, c0, c1, c2, c3, c4, c5, c6, c7⟩ ⟨dA, dn, dc⟩ ⟨rA, rn, rc⟩ ds rs) (hr : rightB ⟨5, s, o, fin, l, c, f, q, y, c0, c1, c2, c3, c4, c5, c6, c7⟩ ds rs = true) :
    Calls Try.prog 12 #[frV ⟨5, s, o, fin, l, c, f, q, y, c0, c1, c2, c3, c4, c5, c6, c7⟩ ⟨dA, dn, dc⟩ ⟨rA, rn, rc⟩] w (VPost w.heap.size (oneS ⟨5, s, o, fin, l, c, f, q, y, c0, c1, c2, c3, c4, c5, c6, c7⟩ ds rs) w) := by
  obtain ⟨hwf, hdt, hrg⟩ := hf
  have s0 := hwf.s0
  have o0 := hwf.o0
  have l0 := hwf.l0
  have c_0 := hwf.c0
  have f0 := hwf.f0
  have q0 := hwf.q0
  have y0 := hwf.y0
  have hcid : Byt (cidL ⟨5, s, o, fin, l, c, f, q, y, c0, c1, c2, c3, c4, c5, c6, c7⟩) := hwf.cid
  simp only at s0 o0 l0 c_0 f0 q0 y0
  rw [rightB_5 s o l c f q y c0 c1 c2 c3 c4 c5 c6 c7 fin ds rs dn hdt.rd.len s0 o0 l0 c_0 f0 q0 y0] at hr
  have hbd : s ≤ 4611686018427387903 ∧ c ≤ 4611686018427387903 := by simp [smL] at hr; omega
  have hdr := hdt.rd.1
  simp only at hdr
  obtain ⟨E, hE⟩ : ∃ E, oneS ⟨5, s, o, fin, l, c, f, q, y, c0, c1, c2, c3, c4, c5, c6, c7⟩ ds rs = E := ⟨_, rfl⟩
  have HE : Hid (E = [] ++ putL [5] ++ putL [s, c]) := Lib.hid (by rw [← hE]; simp [oneS, bodyS, wkS, putL, cidL])
  rw [hE]
  have hb0 : Below w.heap.size w (w.alloc (.cells #[.int .i64 5, .int .u64 s, .int .u64 o, .slice dA dn dc, .bool fin, .int .u64 l, .int .u64 c, .int .u64 f, .int .u64 q, .int .u64 y, .slice rA rn rc,
      .int .u8 c0, .int .u8 c1, .int .u8 c2, .int .u8 c3, .int .u8 c4, .int .u8 c5, .int .u8 c6, .int .u8 c7] 31)) := (Below.refl _ _).alloc (Nat.le_refl _) _
  have hA0 : At (w.alloc (.cells #[.int .i64 5, .int .u64 s, .int .u64 o, .slice dA dn dc, .bool fin, .int .u64 l, .int .u64 c, .int .u64 f, .int .u64 q, .int .u64 y, .slice rA rn rc,
      .int .u8 c0, .int .u8 c1, .int .u8 c2, .int .u8 c3, .int .u8 c4, .int .u8 c5, .int .u8 c6, .int .u8 c7] 31)) w.heap.size 31 (frL ⟨5, s, o, fin, l, c, f, q, y, c0, c1, c2, c3, c4, c5, c6, c7⟩ ⟨dA, dn, dc⟩ ⟨rA, rn, rc⟩) := At.new w _ _
  have hs0 : (w.alloc (.cells #[.int .i64 5, .int .u64 s, .int .u64 o, .slice dA dn dc, .bool fin, .int .u64 l, .int .u64 c, .int .u64 f, .int .u64 q, .int .u64 y, .slice rA rn rc,
      .int .u8 c0, .int .u8 c1, .int .u8 c2, .int .u8 c3, .int .u8 c4, .int .u8 c5, .int .u8 c6, .int .u8 c7] 31)).heap.size = w.heap.size + 1 := by simp
  have HA0 := Lib.hid hA0
  have HB0 := Lib.hid hb0
  have HS0 := Lib.hid hs0
  have HD := Lib.hid hdr
  have HCB := Lib.hid hcid
  simp only [frV, frL]
  have h1 := rvs_new none 0 0 [] [5] #[.int .u64 5] 1 (w.alloc (.cells #[.int .i64 5, .int .u64 s, .int .u64 o, .slice dA dn dc, .bool fin, .int .u64 l, .int .u64 c, .int .u64 f, .int .u64 q, .int .u64 y, .slice rA rn rc,
        .int .u8 c0, .int .u8 c1, .int .u8 c2, .int .u8 c3, .int .u8 c4, .int .u8 c5, .int .u8 c6, .int .u8 c7] 31)) w.heap.size (w.heap.size + 1) (by simp) (Rd.none_ _ _ _) (by decide) rfl (by intro x hx; simp at hx; omega) rfl (by decide) (by decide) (by omega)
  have H1 := Lib.hid h1
  clear h1 hb0 hA0 hs0 hwf hdt hrg hdr hr hE hcid
  go_enter Try.func12, Try.ntmps12
  go_wp2_with fail
  refine H1.out.mono ?_
  rintro e w1 ⟨A1, n1, a1, rfl, hn1, hO1, hR1, hB1⟩
  have hA1 := HA0.out.below hB1 (by rw [HS0.out]; omega)
  have hB1 := HB0.out.trans (hB1.mono (by rw [HS0.out]; omega))
  have hs1 := hB1.size
  have ek : w1.cell? ⟨w.heap.size, 0, none⟩ = some (.int .i64 5) := (hA1.cell 0).trans rfl
  have e1s : w1.cell? ⟨w.heap.size, 1, none⟩ = some (.int .u64 s) := (hA1.cell 1).trans rfl
  have e1c : w1.cell? ⟨w.heap.size, 6, none⟩ = some (.int .u64 c) := (hA1.cell 6).trans rfl
  have hg1 := hA1.lt
  have hm1 : n1 ≤ 100000 := by
    rw [← hn1]
    have := putL_len [(5 : Int)]
    simp only [List.length_append, List.length_cons, List.length_nil] at *
    omega
  go_wp2_with fail
  refine (rvs_new A1 n1 a1 ([] ++ putL [5]) [s, c] _ 2 w1 w.heap.size _ rfl hR1 (by omega) rfl (by intro x hx; simp at hx; omega) rfl (by decide) (by decide) (by omega)).mono ?_
  rintro e w2 ⟨A2, n2, a2, rfl, hn2, hO2, hR2, hB2⟩
  have hA2 := hA1.below hB2 hA1.lt
  have hB2 := hB1.trans (hB2.mono hB1.size)
  have hs2 := hB2.size
  have hg2 := hA2.lt
  go_wp2_with fail
  go_ret
  rw [HE.out]
  exact ⟨A2, n2, a2, rfl, hn2, hO2, hR2, hB2⟩
set_option maxRecDepth 100000 in
set_option maxHeartbeats 2000000 in
theorem rone_16 (P : Nat → Prop) (s o l c f q y c0 c1 c2 c3 c4 c5 c6 c7 : Int) (fin : Bool) (dA : Option Addr) (dn dc : Nat) (rA : Option Addr) (rn rc : Nat) (ds : List Int) (rs : RS) (w : World) (hf : Fits w P ⟨16, s, o, fin, l, c, f, q, y, c0, c1, c2, c3, c4, c5, c6, c7⟩ ⟨dA, dn, dc⟩ ⟨rA, rn, rc⟩ ds rs) (hr : rightB ⟨16, s, o, fin, l, c, f, q, y, c0, c1, c2, c3, c4, c5, c6, c7⟩ ds rs = true) :
    Calls Try.prog 12 #[frV ⟨16, s, o, fin, l, c, f, q, y, c0, c1, c2, c3, c4, c5, c6, c7⟩ ⟨dA, dn, dc⟩ ⟨rA, rn, rc⟩] w (VPost w.heap.size (oneS ⟨16, s, o, fin, l, c, f, q, y, c0, c1, c2, c3, c4, c5, c6, c7⟩ ds rs) w) := by
  obtain ⟨hwf, hdt, hrg⟩ := hf
  have s0 := hwf.s0
  have o0 := hwf.o0
  have l0 := hwf.l0
  have c_0 := hwf.c0
  have f0 := hwf.f0
  have q0 := hwf.q0
  have y0 := hwf.y0
  have hcid : Byt (cidL ⟨16, s, o, fin, l, c, f, q, y, c0, c1, c2, c3, c4, c5, c6, c7⟩) := hwf.cid
  simp only at s0 o0 l0 c_0 f0 q0 y0
  rw [rightB_16 s o l c f q y c0 c1 c2 c3 c4 c5 c6 c7 fin ds rs dn hdt.rd.len s0 o0 l0 c_0 f0 q0 y0] at hr
  have hbd : l ≤ 1099511627776 := by simp [smL] at hr; omega
  have hdr := hdt.rd.1
  simp only at hdr
  obtain ⟨E, hE⟩ : ∃ E, oneS ⟨16, s, o, fin, l, c, f, q, y, c0, c1, c2, c3, c4, c5, c6, c7⟩ ds rs = E := ⟨_, rfl⟩
  have HE : Hid (E = [] ++ putL [16] ++ putL [l]) := Lib.hid (by rw [← hE]; simp [oneS, bodyS, wkS, putL, cidL])
  rw [hE]
  have hb0 : Below w.heap.size w (w.alloc (.cells #[.int .i64 16, .int .u64 s, .int .u64 o, .slice dA dn dc, .bool fin, .int .u64 l, .int .u64 c, .int .u64 f, .int .u64 q, .int .u64 y, .slice rA rn rc,
      .int .u8 c0, .int .u8 c1, .int .u8 c2, .int .u8 c3, .int .u8 c4, .int .u8 c5, .int .u8 c6, .int .u8 c7] 31)) := (Below.refl _ _).alloc (Nat.le_refl _) _
  have hA0 : At (w.alloc (.cells #[.int .i64 16, .int .u64 s, .int .u64 o, .slice dA dn dc, .bool fin, .int .u64 l, .int .u64 c, .int .u64 f, .int .u64 q, .int .u64 y, .slice rA rn rc,
      .int .u8 c0, .int .u8 c1, .int .u8 c2, .int .u8 c3, .int .u8 c4, .int .u8 c5, .int .u8 c6, .int .u8 c7] 31)) w.heap.size 31 (frL ⟨16, s, o, fin, l, c, f, q, y, c0, c1, c2, c3, c4, c5, c6, c7⟩ ⟨dA, dn, dc⟩ ⟨rA, rn, rc⟩) := At.new w _ _
  have hs0 : (w.alloc (.cells #[.int .i64 16, .int .u64 s, .int .u64 o, .slice dA dn dc, .bool fin, .int .u64 l, .int .u64 c, .int .u64 f, .int .u64 q, .int .u64 y, .slice rA rn rc,
      .int .u8 c0, .int .u8 c1, .int .u8 c2, .int .u8 c3, .int .u8 c4, .int .u8 c5, .int .u8 c6, .int .u8 c7] 31)).heap.size = w.heap.size + 1 := by simp
  have HA0 := Lib.hid hA0
  have HB0 := Lib.hid hb0
  have HS0 := Lib.hid hs0
  have HD := Lib.hid hdr
  have HCB := Lib.hid hcid
  simp only [frV, frL]
  have h1 := rvs_new none 0 0 [] [16] #[.int .u64 16] 1 (w.alloc (.cells #[.int .i64 16, .int .u64 s, .int .u64 o, .slice dA dn dc, .bool fin, .int .u64 l, .int .u64 c, .int .u64 f, .int .u64 q, .int .u64 y, .slice rA rn rc,
        .int .u8 c0, .int .u8 c1, .int .u8 c2, .int .u8 c3, .int .u8 c4, .int .u8 c5, .int .u8 c6, .int .u8 c7] 31)) w.heap.size (w.heap.size + 1) (by simp) (Rd.none_ _ _ _) (by decide) rfl (by intro x hx; simp at hx; omega) rfl (by decide) (by decide) (by omega)
  have H1 := Lib.hid h1
  clear h1 hb0 hA0 hs0 hwf hdt hrg hdr hr hE hcid
  go_enter Try.func12, Try.ntmps12
  go_wp2_with fail
  refine H1.out.mono ?_
  rintro e w1 ⟨A1, n1, a1, rfl, hn1, hO1, hR1, hB1⟩
  have hA1 := HA0.out.below hB1 (by rw [HS0.out]; omega)
  have hB1 := HB0.out.trans (hB1.mono (by rw [HS0.out]; omega))
  have hs1 := hB1.size
  have ek : w1.cell? ⟨w.heap.size, 0, none⟩ = some (.int .i64 16) := (hA1.cell 0).trans rfl
  have e1l : w1.cell? ⟨w.heap.size, 5, none⟩ = some (.int .u64 l) := (hA1.cell 5).trans rfl
  have hg1 := hA1.lt
  have hm1 : n1 ≤ 100000 := by
    rw [← hn1]
    have := putL_len [(16 : Int)]
    simp only [List.length_append, List.length_cons, List.length_nil] at *
    omega
  go_wp2_with fail
  refine (rvs_new A1 n1 a1 ([] ++ putL [16]) [l] _ 1 w1 w.heap.size _ rfl hR1 (by omega) rfl (by intro x hx; simp at hx; omega) rfl (by decide) (by decide) (by omega)).mono ?_
  rintro e w2 ⟨A2, n2, a2, rfl, hn2, hO2, hR2, hB2⟩
  have hA2 := hA1.below hB2 hA1.lt
  have hB2 := hB1.trans (hB2.mono hB1.size)
  have hs2 := hB2.size
  have hg2 := hA2.lt
  go_wp2_with fail
  go_ret
  rw [HE.out]
  exact ⟨A2, n2, a2, rfl, hn2, hO2, hR2, hB2⟩
set_option maxRecDepth 100000 in
set_option maxHeartbeats 2000000 in
theorem rone_18 (P : Nat → Prop) (s o l c f q y c0 c1 c2 c3 c4 c5 c6 c7 : Int) (fin : Bool) (dA : Option Addr) (dn dc : Nat) (rA : Option Addr) (rn rc : Nat) (ds : List Int) (rs : RS) (w : World) (hf : Fits w P ⟨18, s, o, fin, l, c, f, q, y, c0, c1, c2, c3, c4, c5, c6, c7⟩ ⟨dA, dn, dc⟩ ⟨rA, rn, rc⟩ ds rs) (hr : rightB ⟨18, s, o, fin, l, c, f, q, y, c0, c1, c2, c3, c4, c5, c6, c7⟩ ds rs = true) :
    Calls Try.prog 12 #[frV ⟨18, s, o, fin, l, c, f, q, y, c0, c1, c2, c3, c4, c5, c6, c7⟩ ⟨dA, dn, dc⟩ ⟨rA, rn, rc⟩] w (VPost w.heap.size (oneS ⟨18, s, o, fin, l, c, f, q, y, c0, c1, c2, c3, c4, c5, c6, c7⟩ ds rs) w) := by
  obtain ⟨hwf, hdt, hrg⟩ := hf
  have s0 := hwf.s0
  have o0 := hwf.o0
  have l0 := hwf.l0
  have c_0 := hwf.c0
  have f0 := hwf.f0
  have q0 := hwf.q0
  have y0 := hwf.y0
  have hcid : Byt (cidL ⟨18, s, o, fin, l, c, f, q, y, c0, c1, c2, c3, c4, c5, c6, c7⟩) := hwf.cid
  simp only at s0 o0 l0 c_0 f0 q0 y0
  rw [rightB_18 s o l c f q y c0 c1 c2 c3 c4 c5 c6 c7 fin ds rs dn hdt.rd.len s0 o0 l0 c_0 f0 q0 y0] at hr
  have hbd : l ≤ 1048576 := by simp [smL] at hr; omega
  have hdr := hdt.rd.1
  simp only at hdr
  obtain ⟨E, hE⟩ : ∃ E, oneS ⟨18, s, o, fin, l, c, f, q, y, c0, c1, c2, c3, c4, c5, c6, c7⟩ ds rs = E := ⟨_, rfl⟩
  have HE : Hid (E = [] ++ putL [18] ++ putL [l]) := Lib.hid (by rw [← hE]; simp [oneS, bodyS, wkS, putL, cidL])
  rw [hE]
  have hb0 : Below w.heap.size w (w.alloc (.cells #[.int .i64 18, .int .u64 s, .int .u64 o, .slice dA dn dc, .bool fin, .int .u64 l, .int .u64 c, .int .u64 f, .int .u64 q, .int .u64 y, .slice rA rn rc,
      .int .u8 c0, .int .u8 c1, .int .u8 c2, .int .u8 c3, .int .u8 c4, .int .u8 c5, .int .u8 c6, .int .u8 c7] 31)) := (Below.refl _ _).alloc (Nat.le_refl _) _
  have hA0 : At (w.alloc (.cells #[.int .i64 18, .int .u64 s, .int .u64 o, .slice dA dn dc, .bool fin, .int .u64 l, .int .u64 c, .int .u64 f, .int .u64 q, .int .u64 y, .slice rA rn rc,
      .int .u8 c0, .int .u8 c1, .int .u8 c2, .int .u8 c3, .int .u8 c4, .int .u8 c5, .int .u8 c6, .int .u8 c7] 31)) w.heap.size 31 (frL ⟨18, s, o, fin, l, c, f, q, y, c0, c1, c2, c3, c4, c5, c6, c7⟩ ⟨dA, dn, dc⟩ ⟨rA, rn, rc⟩) := At.new w _ _
  have hs0 : (w.alloc (.cells #[.int .i64 18, .int .u64 s, .int .u64 o, .slice dA dn dc, .bool fin, .int .u64 l, .int .u64 c, .int .u64 f, .int .u64 q, .int .u64 y, .slice rA rn rc,
      .int .u8 c0, .int .u8 c1, .int .u8 c2, .int .u8 c3, .int .u8 c4, .int .u8 c5, .int .u8 c6, .int .u8 c7] 31)).heap.size = w.heap.size + 1 := by simp
  have HA0 := Lib.hid hA0
  have HB0 := Lib.hid hb0
  have HS0 := Lib.hid hs0
  have HD := Lib.hid hdr
  have HCB := Lib.hid hcid
  simp only [frV, frL]
  have h1 := rvs_new none 0 0 [] [18] #[.int .u64 18] 1 (w.alloc (.cells #[.int .i64 18, .int .u64 s, .int .u64 o, .slice dA dn dc, .bool fin, .int .u64 l, .int .u64 c, .int .u64 f, .int .u64 q, .int .u64 y, .slice rA rn rc,
        .int .u8 c0, .int .u8 c1, .int .u8 c2, .int .u8 c3, .int .u8 c4, .int .u8 c5, .int .u8 c6, .int .u8 c7] 31)) w.heap.size (w.heap.size + 1) (by simp) (Rd.none_ _ _ _) (by decide) rfl (by intro x hx; simp at hx; omega) rfl (by decide) (by decide) (by omega)
  have H1 := Lib.hid h1
  clear h1 hb0 hA0 hs0 hwf hdt hrg hdr hr hE hcid
  go_enter Try.func12, Try.ntmps12
  go_wp2_with fail
  refine H1.out.mono ?_
  rintro e w1 ⟨A1, n1, a1, rfl, hn1, hO1, hR1, hB1⟩
  have hA1 := HA0.out.below hB1 (by rw [HS0.out]; omega)
  have hB1 := HB0.out.trans (hB1.mono (by rw [HS0.out]; omega))
  have hs1 := hB1.size
  have ek : w1.cell? ⟨w.heap.size, 0, none⟩ = some (.int .i64 18) := (hA1.cell 0).trans rfl
  have e1l : w1.cell? ⟨w.heap.size, 5, none⟩ = some (.int .u64 l) := (hA1.cell 5).trans rfl
  have hg1 := hA1.lt
  have hm1 : n1 ≤ 100000 := by
    rw [← hn1]
    have := putL_len [(18 : Int)]
    simp only [List.length_append, List.length_cons, List.length_nil] at *
    omega
  go_wp2_with fail
  refine (rvs_new A1 n1 a1 ([] ++ putL [18]) [l] _ 1 w1 w.heap.size _ rfl hR1 (by omega) rfl (by intro x hx; simp at hx; omega) rfl (by decide) (by decide) (by omega)).mono ?_
  rintro e w2 ⟨A2, n2, a2, rfl, hn2, hO2, hR2, hB2⟩
  have hA2 := hA1.below hB2 hA1.lt
  have hB2 := hB1.trans (hB2.mono hB1.size)
  have hs2 := hB2.size
  have hg2 := hA2.lt
  go_wp2_with fail
  go_ret
  rw [HE.out]
  exact ⟨A2, n2, a2, rfl, hn2, hO2, hR2, hB2⟩
set_option maxRecDepth 100000 in
set_option maxHeartbeats 2000000 in
theorem rone_20 (P : Nat → Prop) (s o l c f q y c0 c1 c2 c3 c4 c5 c6 c7 : Int) (fin : Bool) (dA : Option Addr) (dn dc : Nat) (rA : Option Addr) (rn rc : Nat) (ds : List Int) (rs : RS) (w : World) (hf : Fits w P ⟨20, s, o, fin, l, c, f, q, y, c0, c1, c2, c3, c4, c5, c6, c7⟩ ⟨dA, dn, dc⟩ ⟨rA, rn, rc⟩ ds rs) (hr : rightB ⟨20, s, o, fin, l, c, f, q, y, c0, c1, c2, c3, c4, c5, c6, c7⟩ ds rs = true) :
    Calls Try.prog 12 #[frV ⟨20, s, o, fin, l, c, f, q, y, c0, c1, c2, c3, c4, c5, c6, c7⟩ ⟨dA, dn, dc⟩ ⟨rA, rn, rc⟩] w (VPost w.heap.size (oneS ⟨20, s, o, fin, l, c, f, q, y, c0, c1, c2, c3, c4, c5, c6, c7⟩ ds rs) w) := by
  obtain ⟨hwf, hdt, hrg⟩ := hf
  have s0 := hwf.s0
  have o0 := hwf.o0
  have l0 := hwf.l0
  have c_0 := hwf.c0
  have f0 := hwf.f0
  have q0 := hwf.q0
  have y0 := hwf.y0
  have hcid : Byt (cidL ⟨20, s, o, fin, l, c, f, q, y, c0, c1, c2, c3, c4, c5, c6, c7⟩) := hwf.cid
  simp only at s0 o0 l0 c_0 f0 q0 y0
  rw [rightB_20 s o l c f q y c0 c1 c2 c3 c4 c5 c6 c7 fin ds rs dn hdt.rd.len s0 o0 l0 c_0 f0 q0 y0] at hr
  have hbd : l ≤ 4611686018427387903 := by simp [smL] at hr; omega
  have hdr := hdt.rd.1
  simp only at hdr
  obtain ⟨E, hE⟩ : ∃ E, oneS ⟨20, s, o, fin, l, c, f, q, y, c0, c1, c2, c3, c4, c5, c6, c7⟩ ds rs = E := ⟨_, rfl⟩
  have HE : Hid (E = [] ++ putL [20] ++ putL [l]) := Lib.hid (by rw [← hE]; simp [oneS, bodyS, wkS, putL, cidL])
  rw [hE]
  have hb0 : Below w.heap.size w (w.alloc (.cells #[.int .i64 20, .int .u64 s, .int .u64 o, .slice dA dn dc, .bool fin, .int .u64 l, .int .u64 c, .int .u64 f, .int .u64 q, .int .u64 y, .slice rA rn rc,
      .int .u8 c0, .int .u8 c1, .int .u8 c2, .int .u8 c3, .int .u8 c4, .int .u8 c5, .int .u8 c6, .int .u8 c7] 31)) := (Below.refl _ _).alloc (Nat.le_refl _) _
  have hA0 : At (w.alloc (.cells #[.int .i64 20, .int .u64 s, .int .u64 o, .slice dA dn dc, .bool fin, .int .u64 l, .int .u64 c, .int .u64 f, .int .u64 q, .int .u64 y, .slice rA rn rc,
      .int .u8 c0, .int .u8 c1, .int .u8 c2, .int .u8 c3, .int .u8 c4, .int .u8 c5, .int .u8 c6, .int .u8 c7] 31)) w.heap.size 31 (frL ⟨20, s, o, fin, l, c, f, q, y, c0, c1, c2, c3, c4, c5, c6, c7⟩ ⟨dA, dn, dc⟩ ⟨rA, rn, rc⟩) := At.new w _ _
  have hs0 : (w.alloc (.cells #[.int .i64 20, .int .u64 s, .int .u64 o, .slice dA dn dc, .bool fin, .int .u64 l, .int .u64 c, .int .u64 f, .int .u64 q, .int .u64 y, .slice rA rn rc,
      .int .u8 c0, .int .u8 c1, .int .u8 c2, .int .u8 c3, .int .u8 c4, .int .u8 c5, .int .u8 c6, .int .u8 c7] 31)).heap.size = w.heap.size + 1 := by simp
  have HA0 := Lib.hid hA0
  have HB0 := Lib.hid hb0
  have HS0 := Lib.hid hs0
  have HD := Lib.hid hdr
  have HCB := Lib.hid hcid
  simp only [frV, frL]
  have h1 := rvs_new none 0 0 [] [20] #[.int .u64 20] 1 (w.alloc (.cells #[.int .i64 20, .int .u64 s, .int .u64 o, .slice dA dn dc, .bool fin, .int .u64 l, .int .u64 c, .int .u64 f, .int .u64 q, .int .u64 y, .slice rA rn rc,
        .int .u8 c0, .int .u8 c1, .int .u8 c2, .int .u8 c3, .int .u8 c4, .int .u8 c5, .int .u8 c6, .int .u8 c7] 31)) w.heap.size (w.heap.size + 1) (by simp) (Rd.none_ _ _ _) (by decide) rfl (by intro x hx; simp at hx; omega) rfl (by decide) (by decide) (by omega)
  have H1 := Lib.hid h1
  clear h1 hb0 hA0 hs0 hwf hdt hrg hdr hr hE hcid
  go_enter Try.func12, Try.ntmps12
  go_wp2_with fail
  refine H1.out.mono ?_
  rintro e w1 ⟨A1, n1, a1, rfl, hn1, hO1, hR1, hB1⟩
  have hA1 := HA0.out.below hB1 (by rw [HS0.out]; omega)
  have hB1 := HB0.out.trans (hB1.mono (by rw [HS0.out]; omega))
  have hs1 := hB1.size
  have ek : w1.cell? ⟨w.heap.size, 0, none⟩ = some (.int .i64 20) := (hA1.cell 0).trans rfl
  have e1l : w1.cell? ⟨w.heap.size, 5, none⟩ = some (.int .u64 l) := (hA1.cell 5).trans rfl
  have hg1 := hA1.lt
  have hm1 : n1 ≤ 100000 := by
    rw [← hn1]
    have := putL_len [(20 : Int)]
    simp only [List.length_append, List.length_cons, List.length_nil] at *
    omega
  go_wp2_with fail
  refine (rvs_new A1 n1 a1 ([] ++ putL [20]) [l] _ 1 w1 w.heap.size _ rfl hR1 (by omega) rfl (by intro x hx; simp at hx; omega) rfl (by decide) (by decide) (by omega)).mono ?_
  rintro e w2 ⟨A2, n2, a2, rfl, hn2, hO2, hR2, hB2⟩
  have hA2 := hA1.below hB2 hA1.lt
  have hB2 := hB1.trans (hB2.mono hB1.size)
  have hs2 := hB2.size
  have hg2 := hA2.lt
  go_wp2_with fail
  go_ret
  rw [HE.out]
  exact ⟨A2, n2, a2, rfl, hn2, hO2, hR2, hB2⟩
set_option maxRecDepth 100000 in
set_option maxHeartbeats 2000000 in
theorem rone_17 (P : Nat → Prop) (s o l c f q y c0 c1 c2 c3 c4 c5 c6 c7 : Int) (fin : Bool) (dA : Option Addr) (dn dc : Nat) (rA : Option Addr) (rn rc : Nat) (ds : List Int) (rs : RS) (w : World) (hf : Fits w P ⟨17, s, o, fin, l, c, f, q, y, c0, c1, c2, c3, c4, c5, c6, c7⟩ ⟨dA, dn, dc⟩ ⟨rA, rn, rc⟩ ds rs) (hr : rightB ⟨17, s, o, fin, l, c, f, q, y, c0, c1, c2, c3, c4, c5, c6, c7⟩ ds rs = true) :
    Calls Try.prog 12 #[frV ⟨17, s, o, fin, l, c, f, q, y, c0, c1, c2, c3, c4, c5, c6, c7⟩ ⟨dA, dn, dc⟩ ⟨rA, rn, rc⟩] w (VPost w.heap.size (oneS ⟨17, s, o, fin, l, c, f, q, y, c0, c1, c2, c3, c4, c5, c6, c7⟩ ds rs) w) := by
  obtain ⟨hwf, hdt, hrg⟩ := hf
  have s0 := hwf.s0
  have o0 := hwf.o0
  have l0 := hwf.l0
  have c_0 := hwf.c0
  have f0 := hwf.f0
  have q0 := hwf.q0
  have y0 := hwf.y0
  have hcid : Byt (cidL ⟨17, s, o, fin, l, c, f, q, y, c0, c1, c2, c3, c4, c5, c6, c7⟩) := hwf.cid
  simp only at s0 o0 l0 c_0 f0 q0 y0
  rw [rightB_17 s o l c f q y c0 c1 c2 c3 c4 c5 c6 c7 fin ds rs dn hdt.rd.len s0 o0 l0 c_0 f0 q0 y0] at hr
  have hbd : s ≤ 4611686018427387903 ∧ l ≤ 1099511627776 := by simp [smL] at hr; omega
  have hdr := hdt.rd.1
  simp only at hdr
  obtain ⟨E, hE⟩ : ∃ E, oneS ⟨17, s, o, fin, l, c, f, q, y, c0, c1, c2, c3, c4, c5, c6, c7⟩ ds rs = E := ⟨_, rfl⟩
  have HE : Hid (E = [] ++ putL [17] ++ putL [s, l]) := Lib.hid (by rw [← hE]; simp [oneS, bodyS, wkS, putL, cidL])
  rw [hE]
  have hb0 : Below w.heap.size w (w.alloc (.cells #[.int .i64 17, .int .u64 s, .int .u64 o, .slice dA dn dc, .bool fin, .int .u64 l, .int .u64 c, .int .u64 f, .int .u64 q, .int .u64 y, .slice rA rn rc,
      .int .u8 c0, .int .u8 c1, .int .u8 c2, .int .u8 c3, .int .u8 c4, .int .u8 c5, .int .u8 c6, .int .u8 c7] 31)) := (Below.refl _ _).alloc (Nat.le_refl _) _
  have hA0 : At (w.alloc (.cells #[.int .i64 17, .int .u64 s, .int .u64 o, .slice dA dn dc, .bool fin, .int .u64 l, .int .u64 c, .int .u64 f, .int .u64 q, .int .u64 y, .slice rA rn rc,
      .int .u8 c0, .int .u8 c1, .int .u8 c2, .int .u8 c3, .int .u8 c4, .int .u8 c5, .int .u8 c6, .int .u8 c7] 31)) w.heap.size 31 (frL ⟨17, s, o, fin, l, c, f, q, y, c0, c1, c2, c3, c4, c5, c6, c7⟩ ⟨dA, dn, dc⟩ ⟨rA, rn, rc⟩) := At.new w _ _
  have hs0 : (w.alloc (.cells #[.int .i64 17, .int .u64 s, .int .u64 o, .slice dA dn dc, .bool fin, .int .u64 l, .int .u64 c, .int .u64 f, .int .u64 q, .int .u64 y, .slice rA rn rc,
      .int .u8 c0, .int .u8 c1, .int .u8 c2, .int .u8 c3, .int .u8 c4, .int .u8 c5, .int .u8 c6, .int .u8 c7] 31)).heap.size = w.heap.size + 1 := by simp
  have HA0 := Lib.hid hA0
  have HB0 := Lib.hid hb0
  have HS0 := Lib.hid hs0
  have HD := Lib.hid hdr
  have HCB := Lib.hid hcid
  simp only [frV, frL]
  have h1 := rvs_new none 0 0 [] [17] #[.int .u64 17] 1 (w.alloc (.cells #[.int .i64 17, .int .u64 s, .int .u64 o, .slice dA dn dc, .bool fin, .int .u64 l, .int .u64 c, .int .u64 f, .int .u64 q, .int .u64 y, .slice rA rn rc,
        .int .u8 c0, .int .u8 c1, .int .u8 c2, .int .u8 c3, .int .u8 c4, .int .u8 c5, .int .u8 c6, .int .u8 c7] 31)) w.heap.size (w.heap.size + 1) (by simp) (Rd.none_ _ _ _) (by decide) rfl (by intro x hx; simp at hx; omega) rfl (by decide) (by decide) (by omega)
  have H1 := Lib.hid h1
  clear h1 hb0 hA0 hs0 hwf hdt hrg hdr hr hE hcid
  go_enter Try.func12, Try.ntmps12
  go_wp2_with fail
  refine H1.out.mono ?_
  rintro e w1 ⟨A1, n1, a1, rfl, hn1, hO1, hR1, hB1⟩
  have hA1 := HA0.out.below hB1 (by rw [HS0.out]; omega)
  have hB1 := HB0.out.trans (hB1.mono (by rw [HS0.out]; omega))
  have hs1 := hB1.size
  have ek : w1.cell? ⟨w.heap.size, 0, none⟩ = some (.int .i64 17) := (hA1.cell 0).trans rfl
  have e1s : w1.cell? ⟨w.heap.size, 1, none⟩ = some (.int .u64 s) := (hA1.cell 1).trans rfl
  have e1l : w1.cell? ⟨w.heap.size, 5, none⟩ = some (.int .u64 l) := (hA1.cell 5).trans rfl
  have hg1 := hA1.lt
  have hm1 : n1 ≤ 100000 := by
    rw [← hn1]
    have := putL_len [(17 : Int)]
    simp only [List.length_append, List.length_cons, List.length_nil] at *
    omega
  go_wp2_with fail
  refine (rvs_new A1 n1 a1 ([] ++ putL [17]) [s, l] _ 2 w1 w.heap.size _ rfl hR1 (by omega) rfl (by intro x hx; simp at hx; omega) rfl (by decide) (by decide) (by omega)).mono ?_
  rintro e w2 ⟨A2, n2, a2, rfl, hn2, hO2, hR2, hB2⟩
  have hA2 := hA1.below hB2 hA1.lt
  have hB2 := hB1.trans (hB2.mono hB1.size)
  have hs2 := hB2.size
  have hg2 := hA2.lt
  go_wp2_with fail
  go_ret
  rw [HE.out]
  exact ⟨A2, n2, a2, rfl, hn2, hO2, hR2, hB2⟩
set_option maxRecDepth 100000 in
set_option maxHeartbeats 2000000 in
theorem rone_25 (P : Nat → Prop) (s o l c f q y c0 c1 c2 c3 c4 c5 c6 c7 : Int) (fin : Bool) (dA : Option Addr) (dn dc : Nat) (rA : Option Addr) (rn rc : Nat) (ds : List Int) (rs : RS) (w : World) (hf : Fits w P ⟨25, s, o, fin, l, c, f, q, y, c0, c1, c2, c3, c4, c5, c6, c7⟩ ⟨dA, dn, dc⟩ ⟨rA, rn, rc⟩ ds rs) (hr : rightB ⟨25, s, o, fin, l, c, f, q, y, c0, c1, c2, c3, c4, c5, c6, c7⟩ ds rs = true) :
    Calls Try.prog 12 #[frV ⟨25, s, o, fin, l, c, f, q, y, c0, c1, c2, c3, c4, c5, c6, c7⟩ ⟨dA, dn, dc⟩ ⟨rA, rn, rc⟩] w (VPost w.heap.size (oneS ⟨25, s, o, fin, l, c, f, q, y, c0, c1, c2, c3, c4, c5, c6, c7⟩ ds rs) w) := by
  obtain ⟨hwf, hdt, hrg⟩ := hf
  have s0 := hwf.s0
  have o0 := hwf.o0
  have l0 := hwf.l0
  have c_0 := hwf.c0
  have f0 := hwf.f0
  have q0 := hwf.q0
  have y0 := hwf.y0
  have hcid : Byt (cidL ⟨25, s, o, fin, l, c, f, q, y, c0, c1, c2, c3, c4, c5, c6, c7⟩) := hwf.cid
  simp only at s0 o0 l0 c_0 f0 q0 y0
  rw [rightB_25 s o l c f q y c0 c1 c2 c3 c4 c5 c6 c7 fin ds rs dn hdt.rd.len s0 o0 l0 c_0 f0 q0 y0] at hr
  have hbd : q ≤ 4611686018427387903 := by simp [smL] at hr; omega
  have hdr := hdt.rd.1
  simp only at hdr
  obtain ⟨E, hE⟩ : ∃ E, oneS ⟨25, s, o, fin, l, c, f, q, y, c0, c1, c2, c3, c4, c5, c6, c7⟩ ds rs = E := ⟨_, rfl⟩
  have HE : Hid (E = [] ++ putL [25] ++ putL [q]) := Lib.hid (by rw [← hE]; simp [oneS, bodyS, wkS, putL, cidL])
  rw [hE]
  have hb0 : Below w.heap.size w (w.alloc (.cells #[.int .i64 25, .int .u64 s, .int .u64 o, .slice dA dn dc, .bool fin, .int .u64 l, .int .u64 c, .int .u64 f, .int .u64 q, .int .u64 y, .slice rA rn rc,
      .int .u8 c0, .int .u8 c1, .int .u8 c2, .int .u8 c3, .int .u8 c4, .int .u8 c5, .int .u8 c6, .int .u8 c7] 31)) := (Below.refl _ _).alloc (Nat.le_refl _) _
  have hA0 : At (w.alloc (.cells #[.int .i64 25, .int .u64 s, .int .u64 o, .slice dA dn dc, .bool fin, .int .u64 l, .int .u64 c, .int .u64 f, .int .u64 q, .int .u64 y, .slice rA rn rc,
      .int .u8 c0, .int .u8 c1, .int .u8 c2, .int .u8 c3, .int .u8 c4, .int .u8 c5, .int .u8 c6, .int .u8 c7] 31)) w.heap.size 31 (frL ⟨25, s, o, fin, l, c, f, q, y, c0, c1, c2, c3, c4, c5, c6, c7⟩ ⟨dA, dn, dc⟩ ⟨rA, rn, rc⟩) := At.new w _ _
  have hs0 : (w.alloc (.cells #[.int .i64 25, .int .u64 s, .int .u64 o, .slice dA dn dc, .bool fin, .int .u64 l, .int .u64 c, .int .u64 f, .int .u64 q, .int .u64 y, .slice rA rn rc,
      .int .u8 c0, .int .u8 c1, .int .u8 c2, .int .u8 c3, .int .u8 c4, .int .u8 c5, .int .u8 c6, .int .u8 c7] 31)).heap.size = w.heap.size + 1 := by simp
  have HA0 := Lib.hid hA0
  have HB0 := Lib.hid hb0
  have HS0 := Lib.hid hs0
  have HD := Lib.hid hdr
  have HCB := Lib.hid hcid
  simp only [frV, frL]
  have h1 := rvs_new none 0 0 [] [25] #[.int .u64 25] 1 (w.alloc (.cells #[.int .i64 25, .int .u64 s, .int .u64 o, .slice dA dn dc, .bool fin, .int .u64 l, .int .u64 c, .int .u64 f, .int .u64 q, .int .u64 y, .slice rA rn rc,
        .int .u8 c0, .int .u8 c1, .int .u8 c2, .int .u8 c3, .int .u8 c4, .int .u8 c5, .int .u8 c6, .int .u8 c7] 31)) w.heap.size (w.heap.size + 1) (by simp) (Rd.none_ _ _ _) (by decide) rfl (by intro x hx; simp at hx; omega) rfl (by decide) (by decide) (by omega)
  have H1 := Lib.hid h1
  clear h1 hb0 hA0 hs0 hwf hdt hrg hdr hr hE hcid
  go_enter Try.func12, Try.ntmps12
  go_wp2_with fail
  refine H1.out.mono ?_
  rintro e w1 ⟨A1, n1, a1, rfl, hn1, hO1, hR1, hB1⟩
  have hA1 := HA0.out.below hB1 (by rw [HS0.out]; omega)
  have hB1 := HB0.out.trans (hB1.mono (by rw [HS0.out]; omega))
  have hs1 := hB1.size
  have ek : w1.cell? ⟨w.heap.size, 0, none⟩ = some (.int .i64 25) := (hA1.cell 0).trans rfl
  have e1q : w1.cell? ⟨w.heap.size, 8, none⟩ = some (.int .u64 q) := (hA1.cell 8).trans rfl
  have hg1 := hA1.lt
  have hm1 : n1 ≤ 100000 := by
    rw [← hn1]
    have := putL_len [(25 : Int)]
    simp only [List.length_append, List.length_cons, List.length_nil] at *
    omega
  go_wp2_with fail
  refine (rvs_new A1 n1 a1 ([] ++ putL [25]) [q] _ 1 w1 w.heap.size _ rfl hR1 (by omega) rfl (by intro x hx; simp at hx; omega) rfl (by decide) (by decide) (by omega)).mono ?_
  rintro e w2 ⟨A2, n2, a2, rfl, hn2, hO2, hR2, hB2⟩
  have hA2 := hA1.below hB2 hA1.lt
  have hB2 := hB1.trans (hB2.mono hB1.size)
  have hs2 := hB2.size
  have hg2 := hA2.lt
  go_wp2_with fail
  go_ret
  rw [HE.out]
  exact ⟨A2, n2, a2, rfl, hn2, hO2, hR2, hB2⟩
set_option maxRecDepth 100000 in
set_option maxHeartbeats 2000000 in
theorem rone_26 (P : Nat → Prop) (s o l c f q y c0 c1 c2 c3 c4 c5 c6 c7 : Int) (fin : Bool) (dA : Option Addr) (dn dc : Nat) (rA : Option Addr) (rn rc : Nat) (ds : List Int) (rs : RS) (w : World) (hf : Fits w P ⟨26, s, o, fin, l, c, f, q, y, c0, c1, c2, c3, c4, c5, c6, c7⟩ ⟨dA, dn, dc⟩ ⟨rA, rn, rc⟩ ds rs) (hr : rightB ⟨26, s, o, fin, l, c, f, q, y, c0, c1, c2, c3, c4, c5, c6, c7⟩ ds rs = true) :
    Calls Try.prog 12 #[frV ⟨26, s, o, fin, l, c, f, q, y, c0, c1, c2, c3, c4, c5, c6, c7⟩ ⟨dA, dn, dc⟩ ⟨rA, rn, rc⟩] w (VPost w.heap.size (oneS ⟨26, s, o, fin, l, c, f, q, y, c0, c1, c2, c3, c4, c5, c6, c7⟩ ds rs) w) := by
  obtain ⟨hwf, hdt, hrg⟩ := hf
  have s0 := hwf.s0
  have o0 := hwf.o0
  have l0 := hwf.l0
  have c_0 := hwf.c0
  have f0 := hwf.f0
  have q0 := hwf.q0
  have y0 := hwf.y0
  have hcid : Byt (cidL ⟨26, s, o, fin, l, c, f, q, y, c0, c1, c2, c3, c4, c5, c6, c7⟩) := hwf.cid
  simp only at s0 o0 l0 c_0 f0 q0 y0
  rw [rightB_26 s o l c f q y c0 c1 c2 c3 c4 c5 c6 c7 fin ds rs dn hdt.rd.len s0 o0 l0 c_0 f0 q0 y0] at hr
  have hbd : True := by trivial
  have hdr := hdt.rd.1
  simp only at hdr
  obtain ⟨E, hE⟩ : ∃ E, oneS ⟨26, s, o, fin, l, c, f, q, y, c0, c1, c2, c3, c4, c5, c6, c7⟩ ds rs = E := ⟨_, rfl⟩
  have HE : Hid (E = [] ++ putL [26] ++ cidL ⟨26, s, o, fin, l, c, f, q, y, c0, c1, c2, c3, c4, c5, c6, c7⟩) := Lib.hid (by rw [← hE]; simp [oneS, bodyS, wkS, putL, cidL])
  rw [hE]
  have hb0 : Below w.heap.size w (w.alloc (.cells #[.int .i64 26, .int .u64 s, .int .u64 o, .slice dA dn dc, .bool fin, .int .u64 l, .int .u64 c, .int .u64 f, .int .u64 q, .int .u64 y, .slice rA rn rc,
      .int .u8 c0, .int .u8 c1, .int .u8 c2, .int .u8 c3, .int .u8 c4, .int .u8 c5, .int .u8 c6, .int .u8 c7] 31)) := (Below.refl _ _).alloc (Nat.le_refl _) _
  have hA0 : At (w.alloc (.cells #[.int .i64 26, .int .u64 s, .int .u64 o, .slice dA dn dc, .bool fin, .int .u64 l, .int .u64 c, .int .u64 f, .int .u64 q, .int .u64 y, .slice rA rn rc,
      .int .u8 c0, .int .u8 c1, .int .u8 c2, .int .u8 c3, .int .u8 c4, .int .u8 c5, .int .u8 c6, .int .u8 c7] 31)) w.heap.size 31 (frL ⟨26, s, o, fin, l, c, f, q, y, c0, c1, c2, c3, c4, c5, c6, c7⟩ ⟨dA, dn, dc⟩ ⟨rA, rn, rc⟩) := At.new w _ _
  have hs0 : (w.alloc (.cells #[.int .i64 26, .int .u64 s, .int .u64 o, .slice dA dn dc, .bool fin, .int .u64 l, .int .u64 c, .int .u64 f, .int .u64 q, .int .u64 y, .slice rA rn rc,
      .int .u8 c0, .int .u8 c1, .int .u8 c2, .int .u8 c3, .int .u8 c4, .int .u8 c5, .int .u8 c6, .int .u8 c7] 31)).heap.size = w.heap.size + 1 := by simp
  have HA0 := Lib.hid hA0
  have HB0 := Lib.hid hb0
  have HS0 := Lib.hid hs0
  have HD := Lib.hid hdr
  have HCB := Lib.hid hcid
  simp only [frV, frL]
  obtain ⟨i0, hi, hz0, hz1, hz2⟩ := info_parts u8_info
  have h1 := rvs_new none 0 0 [] [26] #[.int .u64 26] 1 (w.alloc (.cells #[.int .i64 26, .int .u64 s, .int .u64 o, .slice dA dn dc, .bool fin, .int .u64 l, .int .u64 c, .int .u64 f, .int .u64 q, .int .u64 y, .slice rA rn rc,
        .int .u8 c0, .int .u8 c1, .int .u8 c2, .int .u8 c3, .int .u8 c4, .int .u8 c5, .int .u8 c6, .int .u8 c7] 31)) w.heap.size (w.heap.size + 1) (by simp) (Rd.none_ _ _ _) (by decide) rfl (by intro x hx; simp at hx; omega) rfl (by decide) (by decide) (by omega)
  have H1 := Lib.hid h1
  clear h1 hb0 hA0 hs0 hwf hdt hrg hdr hr hE hcid
  go_enter Try.func12, Try.ntmps12
  go_wp2_with fail
  refine H1.out.mono ?_
  rintro e w1 ⟨A1, n1, a1, rfl, hn1, hO1, hR1, hB1⟩
  have hA1 := HA0.out.below hB1 (by rw [HS0.out]; omega)
  have hB1 := HB0.out.trans (hB1.mono (by rw [HS0.out]; omega))
  have hs1 := hB1.size
  have ek : w1.cell? ⟨w.heap.size, 0, none⟩ = some (.int .i64 26) := (hA1.cell 0).trans rfl
  have hg1 := hA1.lt
  have hm1 : n1 ≤ 100000 := by
    rw [← hn1]
    have := putL_len [(26 : Int)]
    simp only [List.length_append, List.length_cons, List.length_nil] at *
    omega
  have hC1 := cid_rd ⟨26, s, o, fin, l, c, f, q, y, c0, c1, c2, c3, c4, c5, c6, c7⟩ ⟨dA, dn, dc⟩ ⟨rA, rn, rc⟩ hA1 HCB.out
  have hln : ([] ++ putL [26]).length + 8 ≤ 140737488355328 := by rw [hn1]; omega
  go_wp2_with (at_builtin; refine wpList_append_rd rfl (.tmp 175) (.tmp 177) 26 rfl w.heap.size 5 i0 Try.underlying26 hi hz0 hz1 hz2 _ ([] ++ putL [26]) rfl hO1 _ _ 8 8 (cidL ⟨26, s, o, fin, l, c, f, q, y, c0, c1, c2, c3, c4, c5, c6, c7⟩) rfl hC1 hln w hB1 (by omega) ?_; intro v3 w3 hO3 hB3 hgr3)
  obtain ⟨A3, a3, rfl, _, _, hR3⟩ := hO3.open_n _ rfl
  go_wp2_with fail
  go_ret
  rw [HE.out]
  exact ⟨A3, _, a3, rfl, rfl, hO3, hR3, hB3⟩
set_option maxRecDepth 100000 in
set_option maxHeartbeats 2000000 in
theorem rone_27 (P : Nat → Prop) (s o l c f q y c0 c1 c2 c3 c4 c5 c6 c7 : Int) (fin : Bool) (dA : Option Addr) (dn dc : Nat) (rA : Option Addr) (rn rc : Nat) (ds : List Int) (rs : RS) (w : World) (hf : Fits w P ⟨27, s, o, fin, l, c, f, q, y, c0, c1, c2, c3, c4, c5, c6, c7⟩ ⟨dA, dn, dc⟩ ⟨rA, rn, rc⟩ ds rs) (hr : rightB ⟨27, s, o, fin, l, c, f, q, y, c0, c1, c2, c3, c4, c5, c6, c7⟩ ds rs = true) :
    Calls Try.prog 12 #[frV ⟨27, s, o, fin, l, c, f, q, y, c0, c1, c2, c3, c4, c5, c6, c7⟩ ⟨dA, dn, dc⟩ ⟨rA, rn, rc⟩] w (VPost w.heap.size (oneS ⟨27, s, o, fin, l, c, f, q, y, c0, c1, c2, c3, c4, c5, c6, c7⟩ ds rs) w) := by
  obtain ⟨hwf, hdt, hrg⟩ := hf
  have s0 := hwf.s0
  have o0 := hwf.o0
  have l0 := hwf.l0
  have c_0 := hwf.c0
  have f0 := hwf.f0
  have q0 := hwf.q0
  have y0 := hwf.y0
  have hcid : Byt (cidL ⟨27, s, o, fin, l, c, f, q, y, c0, c1, c2, c3, c4, c5, c6, c7⟩) := hwf.cid
  simp only at s0 o0 l0 c_0 f0 q0 y0
  rw [rightB_27 s o l c f q y c0 c1 c2 c3 c4 c5 c6 c7 fin ds rs dn hdt.rd.len s0 o0 l0 c_0 f0 q0 y0] at hr
  have hbd : True := by trivial
  have hdr := hdt.rd.1
  simp only at hdr
  obtain ⟨E, hE⟩ : ∃ E, oneS ⟨27, s, o, fin, l, c, f, q, y, c0, c1, c2, c3, c4, c5, c6, c7⟩ ds rs = E := ⟨_, rfl⟩
  have HE : Hid (E = [] ++ putL [27] ++ cidL ⟨27, s, o, fin, l, c, f, q, y, c0, c1, c2, c3, c4, c5, c6, c7⟩) := Lib.hid (by rw [← hE]; simp [oneS, bodyS, wkS, putL, cidL])
  rw [hE]
  have hb0 : Below w.heap.size w (w.alloc (.cells #[.int .i64 27, .int .u64 s, .int .u64 o, .slice dA dn dc, .bool fin, .int .u64 l, .int .u64 c, .int .u64 f, .int .u64 q, .int .u64 y, .slice rA rn rc,
      .int .u8 c0, .int .u8 c1, .int .u8 c2, .int .u8 c3, .int .u8 c4, .int .u8 c5, .int .u8 c6, .int .u8 c7] 31)) := (Below.refl _ _).alloc (Nat.le_refl _) _
  have hA0 : At (w.alloc (.cells #[.int .i64 27, .int .u64 s, .int .u64 o, .slice dA dn dc, .bool fin, .int .u64 l, .int .u64 c, .int .u64 f, .int .u64 q, .int .u64 y, .slice rA rn rc,
      .int .u8 c0, .int .u8 c1, .int .u8 c2, .int .u8 c3, .int .u8 c4, .int .u8 c5, .int .u8 c6, .int .u8 c7] 31)) w.heap.size 31 (frL ⟨27, s, o, fin, l, c, f, q, y, c0, c1, c2, c3, c4, c5, c6, c7⟩ ⟨dA, dn, dc⟩ ⟨rA, rn, rc⟩) := At.new w _ _
  have hs0 : (w.alloc (.cells #[.int .i64 27, .int .u64 s, .int .u64 o, .slice dA dn dc, .bool fin, .int .u64 l, .int .u64 c, .int .u64 f, .int .u64 q, .int .u64 y, .slice rA rn rc,
      .int .u8 c0, .int .u8 c1, .int .u8 c2, .int .u8 c3, .int .u8 c4, .int .u8 c5, .int .u8 c6, .int .u8 c7] 31)).heap.size = w.heap.size + 1 := by simp
  have HA0 := Lib.hid hA0
  have HB0 := Lib.hid hb0
  have HS0 := Lib.hid hs0
  have HD := Lib.hid hdr
  have HCB := Lib.hid hcid
  simp only [frV, frL]
  obtain ⟨i0, hi, hz0, hz1, hz2⟩ := info_parts u8_info
  have h1 := rvs_new none 0 0 [] [27] #[.int .u64 27] 1 (w.alloc (.cells #[.int .i64 27, .int .u64 s, .int .u64 o, .slice dA dn dc, .bool fin, .int .u64 l, .int .u64 c, .int .u64 f, .int .u64 q, .int .u64 y, .slice rA rn rc,
        .int .u8 c0, .int .u8 c1, .int .u8 c2, .int .u8 c3, .int .u8 c4, .int .u8 c5, .int .u8 c6, .int .u8 c7] 31)) w.heap.size (w.heap.size + 1) (by simp) (Rd.none_ _ _ _) (by decide) rfl (by intro x hx; simp at hx; omega) rfl (by decide) (by decide) (by omega)
  have H1 := Lib.hid h1
  clear h1 hb0 hA0 hs0 hwf hdt hrg hdr hr hE hcid
  go_enter Try.func12, Try.ntmps12
  go_wp2_with fail
  refine H1.out.mono ?_
  rintro e w1 ⟨A1, n1, a1, rfl, hn1, hO1, hR1, hB1⟩
  have hA1 := HA0.out.below hB1 (by rw [HS0.out]; omega)
  have hB1 := HB0.out.trans (hB1.mono (by rw [HS0.out]; omega))
  have hs1 := hB1.size
  have ek : w1.cell? ⟨w.heap.size, 0, none⟩ = some (.int .i64 27) := (hA1.cell 0).trans rfl
  have hg1 := hA1.lt
  have hm1 : n1 ≤ 100000 := by
    rw [← hn1]
    have := putL_len [(27 : Int)]
    simp only [List.length_append, List.length_cons, List.length_nil] at *
    omega
  have hC1 := cid_rd ⟨27, s, o, fin, l, c, f, q, y, c0, c1, c2, c3, c4, c5, c6, c7⟩ ⟨dA, dn, dc⟩ ⟨rA, rn, rc⟩ hA1 HCB.out
  have hln : ([] ++ putL [27]).length + 8 ≤ 140737488355328 := by rw [hn1]; omega
  go_wp2_with (at_builtin; refine wpList_append_rd rfl (.tmp 175) (.tmp 177) 26 rfl w.heap.size 5 i0 Try.underlying26 hi hz0 hz1 hz2 _ ([] ++ putL [27]) rfl hO1 _ _ 8 8 (cidL ⟨27, s, o, fin, l, c, f, q, y, c0, c1, c2, c3, c4, c5, c6, c7⟩) rfl hC1 hln w hB1 (by omega) ?_; intro v3 w3 hO3 hB3 hgr3)
  obtain ⟨A3, a3, rfl, _, _, hR3⟩ := hO3.open_n _ rfl
  go_wp2_with fail
  go_ret
  rw [HE.out]
  exact ⟨A3, _, a3, rfl, rfl, hO3, hR3, hB3⟩
set_option maxRecDepth 100000 in
set_option maxHeartbeats 2000000 in
theorem rone_8_10 (P : Nat → Prop) (s o l c f q y c0 c1 c2 c3 c4 c5 c6 c7 : Int) (fin : Bool) (dA : Option Addr) (dn dc : Nat) (rA : Option Addr) (rn rc : Nat) (ds : List Int) (rs : RS) (w : World) (hf : Fits w P ⟨8, s, o, fin, l, c, f, q, y, c0, c1, c2, c3, c4, c5, c6, c7⟩ ⟨dA, dn, dc⟩ ⟨rA, rn, rc⟩ ds rs) (hr : rightB ⟨8, s, o, fin, l, c, f, q, y, c0, c1, c2, c3, c4, c5, c6, c7⟩ ds rs = true) (hfin : fin = false) (ho : o = 0) :
    Calls Try.prog 12 #[frV ⟨8, s, o, fin, l, c, f, q, y, c0, c1, c2, c3, c4, c5, c6, c7⟩ ⟨dA, dn, dc⟩ ⟨rA, rn, rc⟩] w (VPost w.heap.size (oneS ⟨8, s, o, fin, l, c, f, q, y, c0, c1, c2, c3, c4, c5, c6, c7⟩ ds rs) w) := by
  obtain ⟨hwf, hdt, hrg⟩ := hf
  have s0 := hwf.s0
  have o0 := hwf.o0
  have l0 := hwf.l0
  have c_0 := hwf.c0
  have f0 := hwf.f0
  have q0 := hwf.q0
  have y0 := hwf.y0
  have hcid : Byt (cidL ⟨8, s, o, fin, l, c, f, q, y, c0, c1, c2, c3, c4, c5, c6, c7⟩) := hwf.cid
  simp only at s0 o0 l0 c_0 f0 q0 y0
  rw [rightB_8 s o l c f q y c0 c1 c2 c3 c4 c5 c6 c7 fin ds rs dn hdt.rd.len s0 o0 l0 c_0 f0 q0 y0] at hr
  have hbd : s ≤ 4611686018427387903 ∧ o ≤ 1099511627776 ∧ dn ≤ 512 := by simp [smL] at hr; omega
  have hdr := hdt.rd.1
  simp only at hdr
  obtain ⟨E, hE⟩ : ∃ E, oneS ⟨8, s, o, fin, l, c, f, q, y, c0, c1, c2, c3, c4, c5, c6, c7⟩ ds rs = E := ⟨_, rfl⟩
  have HE : Hid (E = [] ++ putL [10, s] ++ textB ds) := Lib.hid (by rw [← hE]; simp [oneS, bodyS, wkS, putL, cidL, hfin, ho])
  rw [hE]
  subst hfin
  subst ho
  have hb0 : Below w.heap.size w (w.alloc (.cells #[.int .i64 8, .int .u64 s, .int .u64 0, .slice dA dn dc, .bool false, .int .u64 l, .int .u64 c, .int .u64 f, .int .u64 q, .int .u64 y, .slice rA rn rc,
      .int .u8 c0, .int .u8 c1, .int .u8 c2, .int .u8 c3, .int .u8 c4, .int .u8 c5, .int .u8 c6, .int .u8 c7] 31)) := (Below.refl _ _).alloc (Nat.le_refl _) _
  have hA0 : At (w.alloc (.cells #[.int .i64 8, .int .u64 s, .int .u64 0, .slice dA dn dc, .bool false, .int .u64 l, .int .u64 c, .int .u64 f, .int .u64 q, .int .u64 y, .slice rA rn rc,
      .int .u8 c0, .int .u8 c1, .int .u8 c2, .int .u8 c3, .int .u8 c4, .int .u8 c5, .int .u8 c6, .int .u8 c7] 31)) w.heap.size 31 (frL ⟨8, s, 0, false, l, c, f, q, y, c0, c1, c2, c3, c4, c5, c6, c7⟩ ⟨dA, dn, dc⟩ ⟨rA, rn, rc⟩) := At.new w _ _
  have hs0 : (w.alloc (.cells #[.int .i64 8, .int .u64 s, .int .u64 0, .slice dA dn dc, .bool false, .int .u64 l, .int .u64 c, .int .u64 f, .int .u64 q, .int .u64 y, .slice rA rn rc,
      .int .u8 c0, .int .u8 c1, .int .u8 c2, .int .u8 c3, .int .u8 c4, .int .u8 c5, .int .u8 c6, .int .u8 c7] 31)).heap.size = w.heap.size + 1 := by simp
  have HA0 := Lib.hid hA0
  have HB0 := Lib.hid hb0
  have HS0 := Lib.hid hs0
  have HD := Lib.hid hdr
  have HCB := Lib.hid hcid
  simp only [frV, frL]
  have h1 := rvs_new none 0 0 [] [8] #[.int .u64 8] 1 (w.alloc (.cells #[.int .i64 8, .int .u64 s, .int .u64 0, .slice dA dn dc, .bool false, .int .u64 l, .int .u64 c, .int .u64 f, .int .u64 q, .int .u64 y, .slice rA rn rc,
      .int .u8 c0, .int .u8 c1, .int .u8 c2, .int .u8 c3, .int .u8 c4, .int .u8 c5, .int .u8 c6, .int .u8 c7] 31)) w.heap.size (w.heap.size + 1) (by simp) (Rd.none_ _ _ _) (by decide) rfl (by intro x hx; simp at hx; omega) rfl (by decide) (by decide) (by omega)
  have H1 := Lib.hid h1
  clear h1 hb0 hA0 hs0 hwf hdt hrg hdr hr hE hcid
  go_enter Try.func12, Try.ntmps12
  go_wp2_with fail
  refine H1.out.mono ?_
  rintro e w1 ⟨A1, n1, a1, rfl, hn1, hO1, hR1, hB1⟩
  have hA1 := HA0.out.below hB1 (by rw [HS0.out]; omega)
  have hB1 := HB0.out.trans (hB1.mono (by rw [HS0.out]; omega))
  have hs1 := hB1.size
  have ek : w1.cell? ⟨w.heap.size, 0, none⟩ = some (.int .i64 8) := (hA1.cell 0).trans rfl
  have e1s : w1.cell? ⟨w.heap.size, 1, none⟩ = some (.int .u64 s) := (hA1.cell 1).trans rfl
  have e1o : w1.cell? ⟨w.heap.size, 2, none⟩ = some (.int .u64 0) := (hA1.cell 2).trans rfl
  have e1fin : w1.cell? ⟨w.heap.size, 4, none⟩ = some (.bool false) := (hA1.cell 4).trans rfl
  have hg1 := hA1.lt
  clear hR1 hO1 hn1
  go_wp2_with fail
  refine (rvs_new none 0 0 [] [10, s] _ 2 w1 w.heap.size _ rfl (Rd.none_ _ _ _) (by decide) rfl (by intro x hx; simp at hx; omega) rfl (by decide) (by decide) (by omega)).mono ?_
  rintro e w2 ⟨A2, n2, a2, rfl, hn2, hO2, hR2, hB2⟩
  have hA2 := hA1.below hB2 hA1.lt
  have hB2 := hB1.trans (hB2.mono hB1.size)
  have hs2 := hB2.size
  have e2o : w2.cell? ⟨w.heap.size, 2, none⟩ = some (.int .u64 0) := (hA2.cell 2).trans rfl
  have e2d : w2.cell? ⟨w.heap.size, 3, none⟩ = some (.slice dA dn dc) := (hA2.cell 3).trans rfl
  have hg2 := hA2.lt
  have hm2 : n2 ≤ 100000 := by
    rw [← hn2]
    have := putL_len [(10 : Int), s]
    simp only [List.length_append, List.length_cons, List.length_nil] at *
    omega
  go_wp2_with fail
  refine (rtx_new A2 n2 a2 _ dA dn dc ds _ w.heap.size hR2 ((HD.out.below hB2).more hB2.size) (by omega) (by omega) hB2.size).mono ?_
  rintro e w3 ⟨A3, n3, a3, rfl, hn3, hO3, hR3, hB3⟩
  have hA3 := hA2.below hB3 hA2.lt
  have hB3 := hB2.trans (hB3.mono hB2.size)
  have hs3 := hB3.size
  have hg3 := hA3.lt
  go_wp2_with fail
  go_ret
  rw [HE.out]
  exact ⟨A3, n3, a3, rfl, hn3, hO3, hR3, hB3⟩
set_option maxRecDepth 100000 in
set_option maxHeartbeats 2000000 in
theorem rone_8_11 (P : Nat → Prop) (s o l c f q y c0 c1 c2 c3 c4 c5 c6 c7 : Int) (fin : Bool) (dA : Option Addr) (dn dc : Nat) (rA : Option Addr) (rn rc : Nat) (ds : List Int) (rs : RS) (w : World) (hf : Fits w P ⟨8, s, o, fin, l, c, f, q, y, c0, c1, c2, c3, c4, c5, c6, c7⟩ ⟨dA, dn, dc⟩ ⟨rA, rn, rc⟩ ds rs) (hr : rightB ⟨8, s, o, fin, l, c, f, q, y, c0, c1, c2, c3, c4, c5, c6, c7⟩ ds rs = true) (hfin : fin = true) (ho : o = 0) :
    Calls Try.prog 12 #[frV ⟨8, s, o, fin, l, c, f, q, y, c0, c1, c2, c3, c4, c5, c6, c7⟩ ⟨dA, dn, dc⟩ ⟨rA, rn, rc⟩] w (VPost w.heap.size (oneS ⟨8, s, o, fin, l, c, f, q, y, c0, c1, c2, c3, c4, c5, c6, c7⟩ ds rs) w) := by
  obtain ⟨hwf, hdt, hrg⟩ := hf
  have s0 := hwf.s0
  have o0 := hwf.o0
  have l0 := hwf.l0
  have c_0 := hwf.c0
  have f0 := hwf.f0
  have q0 := hwf.q0
  have y0 := hwf.y0
  have hcid : Byt (cidL ⟨8, s, o, fin, l, c, f, q, y, c0, c1, c2, c3, c4, c5, c6, c7⟩) := hwf.cid
  simp only at s0 o0 l0 c_0 f0 q0 y0
  rw [rightB_8 s o l c f q y c0 c1 c2 c3 c4 c5 c6 c7 fin ds rs dn hdt.rd.len s0 o0 l0 c_0 f0 q0 y0] at hr
  have hbd : s ≤ 4611686018427387903 ∧ o ≤ 1099511627776 ∧ dn ≤ 512 := by simp [smL] at hr; omega
  have hdr := hdt.rd.1
  simp only at hdr
  obtain ⟨E, hE⟩ : ∃ E, oneS ⟨8, s, o, fin, l, c, f, q, y, c0, c1, c2, c3, c4, c5, c6, c7⟩ ds rs = E := ⟨_, rfl⟩
  have HE : Hid (E = [] ++ putL [11, s] ++ textB ds) := Lib.hid (by rw [← hE]; simp [oneS, bodyS, wkS, putL, cidL, hfin, ho])
  rw [hE]
  subst hfin
  subst ho
  have hb0 : Below w.heap.size w (w.alloc (.cells #[.int .i64 8, .int .u64 s, .int .u64 0, .slice dA dn dc, .bool true, .int .u64 l, .int .u64 c, .int .u64 f, .int .u64 q, .int .u64 y, .slice rA rn rc,
      .int .u8 c0, .int .u8 c1, .int .u8 c2, .int .u8 c3, .int .u8 c4, .int .u8 c5, .int .u8 c6, .int .u8 c7] 31)) := (Below.refl _ _).alloc (Nat.le_refl _) _
  have hA0 : At (w.alloc (.cells #[.int .i64 8, .int .u64 s, .int .u64 0, .slice dA dn dc, .bool true, .int .u64 l, .int .u64 c, .int .u64 f, .int .u64 q, .int .u64 y, .slice rA rn rc,
      .int .u8 c0, .int .u8 c1, .int .u8 c2, .int .u8 c3, .int .u8 c4, .int .u8 c5, .int .u8 c6, .int .u8 c7] 31)) w.heap.size 31 (frL ⟨8, s, 0, true, l, c, f, q, y, c0, c1, c2, c3, c4, c5, c6, c7⟩ ⟨dA, dn, dc⟩ ⟨rA, rn, rc⟩) := At.new w _ _
  have hs0 : (w.alloc (.cells #[.int .i64 8, .int .u64 s, .int .u64 0, .slice dA dn dc, .bool true, .int .u64 l, .int .u64 c, .int .u64 f, .int .u64 q, .int .u64 y, .slice rA rn rc,
      .int .u8 c0, .int .u8 c1, .int .u8 c2, .int .u8 c3, .int .u8 c4, .int .u8 c5, .int .u8 c6, .int .u8 c7] 31)).heap.size = w.heap.size + 1 := by simp
  have HA0 := Lib.hid hA0
  have HB0 := Lib.hid hb0
  have HS0 := Lib.hid hs0
  have HD := Lib.hid hdr
  have HCB := Lib.hid hcid
  simp only [frV, frL]
  have h1 := rvs_new none 0 0 [] [8] #[.int .u64 8] 1 (w.alloc (.cells #[.int .i64 8, .int .u64 s, .int .u64 0, .slice dA dn dc, .bool true, .int .u64 l, .int .u64 c, .int .u64 f, .int .u64 q, .int .u64 y, .slice rA rn rc,
      .int .u8 c0, .int .u8 c1, .int .u8 c2, .int .u8 c3, .int .u8 c4, .int .u8 c5, .int .u8 c6, .int .u8 c7] 31)) w.heap.size (w.heap.size + 1) (by simp) (Rd.none_ _ _ _) (by decide) rfl (by intro x hx; simp at hx; omega) rfl (by decide) (by decide) (by omega)
  have H1 := Lib.hid h1
  clear h1 hb0 hA0 hs0 hwf hdt hrg hdr hr hE hcid
  go_enter Try.func12, Try.ntmps12
  go_wp2_with fail
  refine H1.out.mono ?_
  rintro e w1 ⟨A1, n1, a1, rfl, hn1, hO1, hR1, hB1⟩
  have hA1 := HA0.out.below hB1 (by rw [HS0.out]; omega)
  have hB1 := HB0.out.trans (hB1.mono (by rw [HS0.out]; omega))
  have hs1 := hB1.size
  have ek : w1.cell? ⟨w.heap.size, 0, none⟩ = some (.int .i64 8) := (hA1.cell 0).trans rfl
  have e1s : w1.cell? ⟨w.heap.size, 1, none⟩ = some (.int .u64 s) := (hA1.cell 1).trans rfl
  have e1o : w1.cell? ⟨w.heap.size, 2, none⟩ = some (.int .u64 0) := (hA1.cell 2).trans rfl
  have e1fin : w1.cell? ⟨w.heap.size, 4, none⟩ = some (.bool true) := (hA1.cell 4).trans rfl
  have hg1 := hA1.lt
  clear hR1 hO1 hn1
  go_wp2_with fail
  refine (rvs_new none 0 0 [] [11, s] _ 2 w1 w.heap.size _ rfl (Rd.none_ _ _ _) (by decide) rfl (by intro x hx; simp at hx; omega) rfl (by decide) (by decide) (by omega)).mono ?_
  rintro e w2 ⟨A2, n2, a2, rfl, hn2, hO2, hR2, hB2⟩
  have hA2 := hA1.below hB2 hA1.lt
  have hB2 := hB1.trans (hB2.mono hB1.size)
  have hs2 := hB2.size
  have e2o : w2.cell? ⟨w.heap.size, 2, none⟩ = some (.int .u64 0) := (hA2.cell 2).trans rfl
  have e2d : w2.cell? ⟨w.heap.size, 3, none⟩ = some (.slice dA dn dc) := (hA2.cell 3).trans rfl
  have hg2 := hA2.lt
  have hm2 : n2 ≤ 100000 := by
    rw [← hn2]
    have := putL_len [(11 : Int), s]
    simp only [List.length_append, List.length_cons, List.length_nil] at *
    omega
  go_wp2_with fail
  refine (rtx_new A2 n2 a2 _ dA dn dc ds _ w.heap.size hR2 ((HD.out.below hB2).more hB2.size) (by omega) (by omega) hB2.size).mono ?_
  rintro e w3 ⟨A3, n3, a3, rfl, hn3, hO3, hR3, hB3⟩
  have hA3 := hA2.below hB3 hA2.lt
  have hB3 := hB2.trans (hB3.mono hB2.size)
  have hs3 := hB3.size
  have hg3 := hA3.lt
  go_wp2_with fail
  go_ret
  rw [HE.out]
  exact ⟨A3, n3, a3, rfl, hn3, hO3, hR3, hB3⟩
set_option maxRecDepth 100000 in
set_option maxHeartbeats 2000000 in
theorem rone_8_14 (P : Nat → Prop) (s o l c f q y c0 c1 c2 c3 c4 c5 c6 c7 : Int) (fin : Bool) (dA : Option Addr) (dn dc : Nat) (rA : Option Addr) (rn rc : Nat) (ds : List Int) (rs : RS) (w : World) (hf : Fits w P ⟨8, s, o, fin, l, c, f, q, y, c0, c1, c2, c3, c4, c5, c6, c7⟩ ⟨dA, dn, dc⟩ ⟨rA, rn, rc⟩ ds rs) (hr : rightB ⟨8, s, o, fin, l, c, f, q, y, c0, c1, c2, c3, c4, c5, c6, c7⟩ ds rs = true) (hfin : fin = false) (ho : 0 < o) :
    Calls Try.prog 12 #[frV ⟨8, s, o, fin, l, c, f, q, y, c0, c1, c2, c3, c4, c5, c6, c7⟩ ⟨dA, dn, dc⟩ ⟨rA, rn, rc⟩] w (VPost w.heap.size (oneS ⟨8, s, o, fin, l, c, f, q, y, c0, c1, c2, c3, c4, c5, c6, c7⟩ ds rs) w) := by
  obtain ⟨hwf, hdt, hrg⟩ := hf
  have s0 := hwf.s0
  have o0 := hwf.o0
  have l0 := hwf.l0
  have c_0 := hwf.c0
  have f0 := hwf.f0
  have q0 := hwf.q0
  have y0 := hwf.y0
  have hcid : Byt (cidL ⟨8, s, o, fin, l, c, f, q, y, c0, c1, c2, c3, c4, c5, c6, c7⟩) := hwf.cid
  simp only at s0 o0 l0 c_0 f0 q0 y0
  rw [rightB_8 s o l c f q y c0 c1 c2 c3 c4 c5 c6 c7 fin ds rs dn hdt.rd.len s0 o0 l0 c_0 f0 q0 y0] at hr
  have hbd : s ≤ 4611686018427387903 ∧ o ≤ 1099511627776 ∧ dn ≤ 512 := by simp [smL] at hr; omega
  have hdr := hdt.rd.1
  simp only at hdr
  obtain ⟨E, hE⟩ : ∃ E, oneS ⟨8, s, o, fin, l, c, f, q, y, c0, c1, c2, c3, c4, c5, c6, c7⟩ ds rs = E := ⟨_, rfl⟩
  have HE : Hid (E = [] ++ putL [14, s] ++ putL [o] ++ textB ds) := Lib.hid (by rw [← hE]; simp [oneS, bodyS, wkS, putL, cidL, hfin, ho])
  rw [hE]
  subst hfin
  have hb0 : Below w.heap.size w (w.alloc (.cells #[.int .i64 8, .int .u64 s, .int .u64 o, .slice dA dn dc, .bool false, .int .u64 l, .int .u64 c, .int .u64 f, .int .u64 q, .int .u64 y, .slice rA rn rc,
      .int .u8 c0, .int .u8 c1, .int .u8 c2, .int .u8 c3, .int .u8 c4, .int .u8 c5, .int .u8 c6, .int .u8 c7] 31)) := (Below.refl _ _).alloc (Nat.le_refl _) _
  have hA0 : At (w.alloc (.cells #[.int .i64 8, .int .u64 s, .int .u64 o, .slice dA dn dc, .bool false, .int .u64 l, .int .u64 c, .int .u64 f, .int .u64 q, .int .u64 y, .slice rA rn rc,
      .int .u8 c0, .int .u8 c1, .int .u8 c2, .int .u8 c3, .int .u8 c4, .int .u8 c5, .int .u8 c6, .int .u8 c7] 31)) w.heap.size 31 (frL ⟨8, s, o, false, l, c, f, q, y, c0, c1, c2, c3, c4, c5, c6, c7⟩ ⟨dA, dn, dc⟩ ⟨rA, rn, rc⟩) := At.new w _ _
  have hs0 : (w.alloc (.cells #[.int .i64 8, .int .u64 s, .int .u64 o, .slice dA dn dc, .bool false, .int .u64 l, .int .u64 c, .int .u64 f, .int .u64 q, .int .u64 y, .slice rA rn rc,
      .int .u8 c0, .int .u8 c1, .int .u8 c2, .int .u8 c3, .int .u8 c4, .int .u8 c5, .int .u8 c6, .int .u8 c7] 31)).heap.size = w.heap.size + 1 := by simp
  have HA0 := Lib.hid hA0
  have HB0 := Lib.hid hb0
  have HS0 := Lib.hid hs0
  have HD := Lib.hid hdr
  have HCB := Lib.hid hcid
  simp only [frV, frL]
  have h1 := rvs_new none 0 0 [] [8] #[.int .u64 8] 1 (w.alloc (.cells #[.int .i64 8, .int .u64 s, .int .u64 o, .slice dA dn dc, .bool false, .int .u64 l, .int .u64 c, .int .u64 f, .int .u64 q, .int .u64 y, .slice rA rn rc,
      .int .u8 c0, .int .u8 c1, .int .u8 c2, .int .u8 c3, .int .u8 c4, .int .u8 c5, .int .u8 c6, .int .u8 c7] 31)) w.heap.size (w.heap.size + 1) (by simp) (Rd.none_ _ _ _) (by decide) rfl (by intro x hx; simp at hx; omega) rfl (by decide) (by decide) (by omega)
  have H1 := Lib.hid h1
  clear h1 hb0 hA0 hs0 hwf hdt hrg hdr hr hE hcid
  go_enter Try.func12, Try.ntmps12
  go_wp2_with fail
  refine H1.out.mono ?_
  rintro e w1 ⟨A1, n1, a1, rfl, hn1, hO1, hR1, hB1⟩
  have hA1 := HA0.out.below hB1 (by rw [HS0.out]; omega)
  have hB1 := HB0.out.trans (hB1.mono (by rw [HS0.out]; omega))
  have hs1 := hB1.size
  have ek : w1.cell? ⟨w.heap.size, 0, none⟩ = some (.int .i64 8) := (hA1.cell 0).trans rfl
  have e1s : w1.cell? ⟨w.heap.size, 1, none⟩ = some (.int .u64 s) := (hA1.cell 1).trans rfl
  have e1o : w1.cell? ⟨w.heap.size, 2, none⟩ = some (.int .u64 o) := (hA1.cell 2).trans rfl
  have e1fin : w1.cell? ⟨w.heap.size, 4, none⟩ = some (.bool false) := (hA1.cell 4).trans rfl
  have hg1 := hA1.lt
  clear hR1 hO1 hn1
  go_wp2_with fail
  refine (rvs_new none 0 0 [] [14, s] _ 2 w1 w.heap.size _ rfl (Rd.none_ _ _ _) (by decide) rfl (by intro x hx; simp at hx; omega) rfl (by decide) (by decide) (by omega)).mono ?_
  rintro e w2 ⟨A2, n2, a2, rfl, hn2, hO2, hR2, hB2⟩
  have hA2 := hA1.below hB2 hA1.lt
  have hB2 := hB1.trans (hB2.mono hB1.size)
  have hs2 := hB2.size
  have e2o : w2.cell? ⟨w.heap.size, 2, none⟩ = some (.int .u64 o) := (hA2.cell 2).trans rfl
  have e2d : w2.cell? ⟨w.heap.size, 3, none⟩ = some (.slice dA dn dc) := (hA2.cell 3).trans rfl
  have hg2 := hA2.lt
  have hm2 : n2 ≤ 100000 := by
    rw [← hn2]
    have := putL_len [(14 : Int), s]
    simp only [List.length_append, List.length_cons, List.length_nil] at *
    omega
  go_wp2_with fail
  refine (rvs_new A2 n2 a2 ([] ++ putL [14, s]) [o] _ 1 w2 w.heap.size _ rfl hR2 (by omega) rfl (by intro x hx; simp at hx; omega) rfl (by decide) (by decide) (by omega)).mono ?_
  rintro e w3 ⟨A3, n3, a3, rfl, hn3, hO3, hR3, hB3⟩
  have hA3 := hA2.below hB3 hA2.lt
  have hB3 := hB2.trans (hB3.mono hB2.size)
  have hs3 := hB3.size
  have e3d : w3.cell? ⟨w.heap.size, 3, none⟩ = some (.slice dA dn dc) := (hA3.cell 3).trans rfl
  have hg3 := hA3.lt
  have hm3 : n3 ≤ 100000 := by
    rw [← hn3]
    have := putL_len [(14 : Int), s]; have := putL_len [o]
    simp only [List.length_append, List.length_cons, List.length_nil] at *
    omega
  go_wp2_with fail
  refine (rtx_new A3 n3 a3 _ dA dn dc ds _ w.heap.size hR3 ((HD.out.below hB3).more hB3.size) (by omega) (by omega) hB3.size).mono ?_
  rintro e w4 ⟨A4, n4, a4, rfl, hn4, hO4, hR4, hB4⟩
  have hA4 := hA3.below hB4 hA3.lt
  have hB4 := hB3.trans (hB4.mono hB3.size)
  have hs4 := hB4.size
  have hg4 := hA4.lt
  go_wp2_with fail
  go_ret
  rw [HE.out]
  exact ⟨A4, n4, a4, rfl, hn4, hO4, hR4, hB4⟩
set_option maxRecDepth 100000 in
set_option maxHeartbeats 2000000 in
theorem rone_8_15 (P : Nat → Prop) (s o l c f q y c0 c1 c2 c3 c4 c5 c6 c7 : Int) (fin : Bool) (dA : Option Addr) (dn dc : Nat) (rA : Option Addr) (rn rc : Nat) (ds : List Int) (rs : RS) (w : World) (hf : Fits w P ⟨8, s, o, fin, l, c, f, q, y, c0, c1, c2, c3, c4, c5, c6, c7⟩ ⟨dA, dn, dc⟩ ⟨rA, rn, rc⟩ ds rs) (hr : rightB ⟨8, s, o, fin, l, c, f, q, y, c0, c1, c2, c3, c4, c5, c6, c7⟩ ds rs = true) (hfin : fin = true) (ho : 0 < o) :
    Calls Try.prog 12 #[frV ⟨8, s, o, fin, l, c, f, q, y, c0, c1, c2, c3, c4, c5, c6, c7⟩ ⟨dA, dn, dc⟩ ⟨rA, rn, rc⟩] w (VPost w.heap.size (oneS ⟨8, s, o, fin, l, c, f, q, y, c0, c1, c2, c3, c4, c5, c6, c7⟩ ds rs) w) := by
  obtain ⟨hwf, hdt, hrg⟩ := hf
  have s0 := hwf.s0
  have o0 := hwf.o0
  have l0 := hwf.l0
  have c_0 := hwf.c0
  have f0 := hwf.f0
  have q0 := hwf.q0
  have y0 := hwf.y0
  have hcid : Byt (cidL ⟨8, s, o, fin, l, c, f, q, y, c0, c1, c2, c3, c4, c5, c6, c7⟩) := hwf.cid
  simp only at s0 o0 l0 c_0 f0 q0 y0
  rw [rightB_8 s o l c f q y c0 c1 c2 c3 c4 c5 c6 c7 fin ds rs dn hdt.rd.len s0 o0 l0 c_0 f0 q0 y0] at hr
  have hbd : s ≤ 4611686018427387903 ∧ o ≤ 1099511627776 ∧ dn ≤ 512 := by simp [smL] at hr; omega
  have hdr := hdt.rd.1
  simp only at hdr
  obtain ⟨E, hE⟩ : ∃ E, oneS ⟨8, s, o, fin, l, c, f, q, y, c0, c1, c2, c3, c4, c5, c6, c7⟩ ds rs = E := ⟨_, rfl⟩
  have HE : Hid (E = [] ++ putL [15, s] ++ putL [o] ++ textB ds) := Lib.hid (by rw [← hE]; simp [oneS, bodyS, wkS, putL, cidL, hfin, ho])
  rw [hE]
  subst hfin
  have hb0 : Below w.heap.size w (w.alloc (.cells #[.int .i64 8, .int .u64 s, .int .u64 o, .slice dA dn dc, .bool true, .int .u64 l, .int .u64 c, .int .u64 f, .int .u64 q, .int .u64 y, .slice rA rn rc,
      .int .u8 c0, .int .u8 c1, .int .u8 c2, .int .u8 c3, .int .u8 c4, .int .u8 c5, .int .u8 c6, .int .u8 c7] 31)) := (Below.refl _ _).alloc (Nat.le_refl _) _
  have hA0 : At (w.alloc (.cells #[.int .i64 8, .int .u64 s, .int .u64 o, .slice dA dn dc, .bool true, .int .u64 l, .int .u64 c, .int .u64 f, .int .u64 q, .int .u64 y, .slice rA rn rc,
      .int .u8 c0, .int .u8 c1, .int .u8 c2, .int .u8 c3, .int .u8 c4, .int .u8 c5, .int .u8 c6, .int .u8 c7] 31)) w.heap.size 31 (frL ⟨8, s, o, true, l, c, f, q, y, c0, c1, c2, c3, c4, c5, c6, c7⟩ ⟨dA, dn, dc⟩ ⟨rA, rn, rc⟩) := At.new w _ _
  have hs0 : (w.alloc (.cells #[.int .i64 8, .int .u64 s, .int .u64 o, .slice dA dn dc, .bool true, .int .u64 l, .int .u64 c, .int .u64 f, .int .u64 q, .int .u64 y, .slice rA rn rc,
      .int .u8 c0, .int .u8 c1, .int .u8 c2, .int .u8 c3, .int .u8 c4, .int .u8 c5, .int .u8 c6, .int .u8 c7] 31)).heap.size = w.heap.size + 1 := by simp
  have HA0 := Lib.hid hA0
  have HB0 := Lib.hid hb0
  have HS0 := Lib.hid hs0
  have HD := Lib.hid hdr
  have HCB := Lib.hid hcid
  simp only [frV, frL]
  have h1 := rvs_new none 0 0 [] [8] #[.int .u64 8] 1 (w.alloc (.cells #[.int .i64 8, .int .u64 s, .int .u64 o, .slice dA dn dc, .bool true, .int .u64 l, .int .u64 c, .int .u64 f, .int .u64 q, .int .u64 y, .slice rA rn rc,
      .int .u8 c0, .int .u8 c1, .int .u8 c2, .int .u8 c3, .int .u8 c4, .int .u8 c5, .int .u8 c6, .int .u8 c7] 31)) w.heap.size (w.heap.size + 1) (by simp) (Rd.none_ _ _ _) (by decide) rfl (by intro x hx; simp at hx; omega) rfl (by decide) (by decide) (by omega)
  have H1 := Lib.hid h1
  clear h1 hb0 hA0 hs0 hwf hdt hrg hdr hr hE hcid
  go_enter Try.func12, Try.ntmps12
  go_wp2_with fail
  refine H1.out.mono ?_
  rintro e w1 ⟨A1, n1, a1, rfl, hn1, hO1, hR1, hB1⟩
  have hA1 := HA0.out.below hB1 (by rw [HS0.out]; omega)
  have hB1 := HB0.out.trans (hB1.mono (by rw [HS0.out]; omega))
  have hs1 := hB1.size
  have ek : w1.cell? ⟨w.heap.size, 0, none⟩ = some (.int .i64 8) := (hA1.cell 0).trans rfl
  have e1s : w1.cell? ⟨w.heap.size, 1, none⟩ = some (.int .u64 s) := (hA1.cell 1).trans rfl
  have e1o : w1.cell? ⟨w.heap.size, 2, none⟩ = some (.int .u64 o) := (hA1.cell 2).trans rfl
  have e1fin : w1.cell? ⟨w.heap.size, 4, none⟩ = some (.bool true) := (hA1.cell 4).trans rfl
  have hg1 := hA1.lt
  clear hR1 hO1 hn1
  go_wp2_with fail
  refine (rvs_new none 0 0 [] [15, s] _ 2 w1 w.heap.size _ rfl (Rd.none_ _ _ _) (by decide) rfl (by intro x hx; simp at hx; omega) rfl (by decide) (by decide) (by omega)).mono ?_
  rintro e w2 ⟨A2, n2, a2, rfl, hn2, hO2, hR2, hB2⟩
  have hA2 := hA1.below hB2 hA1.lt
  have hB2 := hB1.trans (hB2.mono hB1.size)
  have hs2 := hB2.size
  have e2o : w2.cell? ⟨w.heap.size, 2, none⟩ = some (.int .u64 o) := (hA2.cell 2).trans rfl
  have e2d : w2.cell? ⟨w.heap.size, 3, none⟩ = some (.slice dA dn dc) := (hA2.cell 3).trans rfl
  have hg2 := hA2.lt
  have hm2 : n2 ≤ 100000 := by
    rw [← hn2]
    have := putL_len [(15 : Int), s]
    simp only [List.length_append, List.length_cons, List.length_nil] at *
    omega
  go_wp2_with fail
  refine (rvs_new A2 n2 a2 ([] ++ putL [15, s]) [o] _ 1 w2 w.heap.size _ rfl hR2 (by omega) rfl (by intro x hx; simp at hx; omega) rfl (by decide) (by decide) (by omega)).mono ?_
  rintro e w3 ⟨A3, n3, a3, rfl, hn3, hO3, hR3, hB3⟩
  have hA3 := hA2.below hB3 hA2.lt
  have hB3 := hB2.trans (hB3.mono hB2.size)
  have hs3 := hB3.size
  have e3d : w3.cell? ⟨w.heap.size, 3, none⟩ = some (.slice dA dn dc) := (hA3.cell 3).trans rfl
  have hg3 := hA3.lt
  have hm3 : n3 ≤ 100000 := by
    rw [← hn3]
    have := putL_len [(15 : Int), s]; have := putL_len [o]
    simp only [List.length_append, List.length_cons, List.length_nil] at *
    omega
  go_wp2_with fail
  refine (rtx_new A3 n3 a3 _ dA dn dc ds _ w.heap.size hR3 ((HD.out.below hB3).more hB3.size) (by omega) (by omega) hB3.size).mono ?_
  rintro e w4 ⟨A4, n4, a4, rfl, hn4, hO4, hR4, hB4⟩
  have hA4 := hA3.below hB4 hA3.lt
  have hB4 := hB3.trans (hB4.mono hB3.size)
  have hs4 := hB4.size
  have hg4 := hA4.lt
  go_wp2_with fail
  go_ret
  rw [HE.out]
  exact ⟨A4, n4, a4, rfl, hn4, hO4, hR4, hB4⟩
end Go.Proofs.Ytkahndjflhgccaa
