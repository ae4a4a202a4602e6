/-
  What reading a frame means, and what frame.read keeps on its way.
-/
import Derived.Test.YtcobcgbpmkpljaaRd3
namespace Go.Proofs.Ytcobcgbpmkpljaa
set_option linter.unusedVariables false
set_option linter.unusedSimpArgs false
open Go.RowKit
def withC (m : FN) (c : List Int) : FN := { m with c0 := c.getD 0 0, c1 := c.getD 1 0, c2 := c.getD 2 0, c3 := c.getD 3 0, c4 := c.getD 4 0, c5 := c.getD 5 0, c6 := c.getD 6 0, c7 := c.getD 7 0 }
abbrev FD := FN × List Int × RS
/-- What stands behind a Kind as it is written. -/
def rdK (k : Int) (s : St) : Option (FN × List Int × RS × St) :=
  if k = 2 then some ({ FN.zero 2 with y := (ackR s).2.1 }, [], (ackR s).1, (ackR s).2.2)
  else if k = 4 then some ({ FN.zero 4 with s := varR s, c := varR (varN s), f := varR (varN (varN s)) }, [], [], varN (varN (varN s)))
  else if k = 5 then some ({ FN.zero 5 with s := varR s, c := varR (varN s) }, [], [], varN (varN s))
  else if k = 6 then some ({ FN.zero 6 with o := varR s }, textR (varN s), [], textN (varN s))
  else if k = 8 then some ({ FN.zero 8 with s := varR s, o := 0, fin := false }, dataR (varN s) false, [], dataN (varN s) false)
  else if k = 9 then some ({ FN.zero 8 with s := varR s, o := 0, fin := true }, dataR (varN s) false, [], dataN (varN s) false)
  else if k = 10 then some ({ FN.zero 8 with s := varR s, o := 0, fin := false }, dataR (varN s) true, [], dataN (varN s) true)
  else if k = 11 then some ({ FN.zero 8 with s := varR s, o := 0, fin := true }, dataR (varN s) true, [], dataN (varN s) true)
  else if k = 12 then some ({ FN.zero 8 with s := varR s, o := varR (varN s), fin := false }, dataR (varN (varN s)) false, [], dataN (varN (varN s)) false)
  else if k = 13 then some ({ FN.zero 8 with s := varR s, o := varR (varN s), fin := true }, dataR (varN (varN s)) false, [], dataN (varN (varN s)) false)
  else if k = 14 then some ({ FN.zero 8 with s := varR s, o := varR (varN s), fin := false }, dataR (varN (varN s)) true, [], dataN (varN (varN s)) true)
  else if k = 15 then some ({ FN.zero 8 with s := varR s, o := varR (varN s), fin := true }, dataR (varN (varN s)) true, [], dataN (varN (varN s)) true)
  else if k = 16 then some ({ FN.zero 16 with l := varR s }, [], [], varN s)
  else if k = 18 then some ({ FN.zero 18 with l := varR s }, [], [], varN s)
  else if k = 20 then some ({ FN.zero 20 with l := varR s }, [], [], varN s)
  else if k = 17 then some ({ FN.zero 17 with s := varR s, l := varR (varN s) }, [], [], varN (varN s))
  else if k = 24 then (if byteR (varN (varN s)) = 8 then some (withC { FN.zero 24 with q := varR s, l := varR (varN s) } (takeR (takeN (varN (varN s)) 1) 8), [], [], takeN (takeN (varN (varN s)) 1) 8) else none)
  else if k = 25 then some ({ FN.zero 25 with q := varR s }, [], [], varN s)
  else if k = 26 then some (withC (FN.zero 26) (takeR s 8), [], [], takeN s 8)
  else if k = 27 then some (withC (FN.zero 27) (takeR s 8), [], [], takeN s 8)
  else if k = 28 then some ({ FN.zero 28 with c := varR s }, textR (varN s), [], textN (varN s))
  else some (FN.zero k, [], [], s)
/-- The frame that comes next, and what is left behind it; none: there is none that is right. -/
def readO (s : St) : Option (FN × List Int × RS × St) :=
  if 30 < varR s then none
  else match rdK (varR s) (varN s) with
    | none => none
    | some x => if x.2.2.2.2 = false ∧ rightB x.1 x.2.1 x.2.2.1 = true then some x else none
theorem readO_of {s : St} {k : Int} {m : FN} {ds : List Int} {rs : RS} {bs : List Int} {bad : Bool} (hk : varR s = k) (h30 : k ≤ 30) (hd : rdK k (varN s) = some (m, ds, rs, (bs, bad))) :
    readO s = if bad = false ∧ rightB m ds rs = true then some (m, ds, rs, (bs, bad)) else none := by
  unfold readO
  rw [hk, if_neg (by omega), hd]
theorem readO_no {s : St} {k : Int} (hk : varR s = k) (h30 : k ≤ 30) (hd : rdK k (varN s) = none) : readO s = none := by
  unfold readO
  rw [hk, if_neg (by omega), hd]
def ReadPost (w : World) (p : Nat) (T : TypeId) (P : Nat → Prop) (s : St) (e : Ending) (w' : World) : Prop :=
  match readO s with
  | none => e = .returned (.tuple #[frV (FN.zero 0) .nil .nil, .bool false]) ∧ Kept (· = p) w w'
  | some x => ∃ d r, e = .returned (.tuple #[frV x.1 d r, .bool true]) ∧ Fits w' (fun b => w.heap.size ≤ b) x.1 d r x.2.1 x.2.2.1 ∧ Rdr w' p T P x.2.2.2 ∧ Kept (· = p) w w'
theorem ReadPost.no {w w' : World} {p : Nat} {T : TypeId} {P : Nat → Prop} {s : St} (h : readO s = none) (hk : Kept (· = p) w w') : ReadPost w p T P s (.returned (.tuple #[frV (FN.zero 0) .nil .nil, .bool false])) w' := by
  unfold ReadPost; rw [h]; exact ⟨rfl, hk⟩
theorem ReadPost.yes {w w' : World} {p : Nat} {T : TypeId} {P : Nat → Prop} {s s' : St} {m : FN} {ds : List Int} {rs : RS} {d r : Sl} (h : readO s = some (m, ds, rs, s')) (hf : Fits w' (fun b => w.heap.size ≤ b) m d r ds rs) (hr : Rdr w' p T P s') (hk : Kept (· = p) w w') : ReadPost w p T P s (.returned (.tuple #[frV m d r, .bool true])) w' := by
  unfold ReadPost; rw [h]; exact ⟨d, r, rfl, hf, hr, hk⟩
/-- On the way: the reader, the result's block, the frame's. -/
structure RdSt (w w' : World) (p : Nat) (T : TypeId) (P : Nat → Prop) (g2 g5 : Nat) (L5 : List Value) (s : St) : Prop where
  rd : Rdr w' p T (fun b => P b ∧ b < w.heap.size) s
  a2 : At w' g2 31 (frL (FN.zero 0) .nil .nil)
  a5 : At w' g5 31 L5
  kp : Kept (· = p) w w'
  g2w : w.heap.size ≤ g2
  g5w : w.heap.size ≤ g5
  g25 : g2 ≠ g5
  pl : p < w.heap.size
section
variable {w w' w'' : World} {p : Nat} {T : TypeId} {P : Nat → Prop} {g2 g5 : Nat} {L5 L6 : List Value} {s s' : St}
theorem RdSt.step (h : RdSt w w' p T P g2 g5 L5 s) (hr : Rdr w'' p T (fun b => P b ∧ b < w.heap.size) s') (hk : Kept (· = p) w' w'') : RdSt w w'' p T P g2 g5 L5 s' :=
  ⟨hr, h.a2.kept hk (by have := h.g2w; have := h.pl; omega), h.a5.kept hk (by have := h.g5w; have := h.pl; omega), h.kp.trans hk, h.g2w, h.g5w, h.g25, h.pl⟩
theorem RdSt.cell (h : RdSt w w' p T P g2 g5 L5 s) (j : Nat) (v : Value) : RdSt w (w'.setCell ⟨g5, j, none⟩ v) p T P g2 g5 (L5.set j v) s :=
  ⟨h.rd.kept ((Kept.refl (· = g5) w').setAt j v) (by have := h.g5w; have := h.pl; omega) (fun b hb e => by have := h.g5w; omega), h.a2.set_other (q := ⟨g5, j, none⟩) (fun e => h.g25 e.symm) v, h.a5.set j v, h.kp.setCell (.inr h.g5w) v, h.g2w, h.g5w, h.g25, h.pl⟩
theorem RdSt.below (h : RdSt w w' p T P g2 g5 L5 s) (hb : Below w'.heap.size w' w'') : RdSt w w'' p T P g2 g5 L5 s :=
  ⟨h.rd.kept (Kept.of_below hb (fun _ => False)) (fun h => h) (fun _ _ h => h), h.a2.below hb h.a2.lt, h.a5.below hb h.a5.lt, h.kp.trans (Kept.of_below hb _), h.g2w, h.g5w, h.g25, h.pl⟩
theorem RdSt.cast (h : RdSt w w' p T P g2 g5 L5 s) (e : L5 = L6) : RdSt w w' p T P g2 g5 L6 s := e ▸ h
theorem RdSt.as (h : RdSt w w' p T P g2 g5 L5 s) (e : s = s') : RdSt w w' p T P g2 g5 L5 s' := e ▸ h
/-- The result is stored. -/
theorem RdSt.out (h : RdSt w w' p T P g2 g5 L5 s) (hk : Kept (· = g2) w' w'') : Kept (· = p) w w'' ∧ Rdr w'' p T P s :=
  ⟨h.kp.trans' hk (fun j hj => .inr (by have := h.g2w; omega)), (h.rd.kept hk (by have := h.g2w; have := h.pl; omega) (fun b hb e => by have := h.g2w; omega)).mono (fun b _ hb => hb.1)⟩
theorem RdSt.start (hr : Rdr w p T P s) (hk1 : Kept (· = p) (w.alloc (.cells (frL (FN.zero 0) .nil .nil).toArray 31)) w') (hr1 : Rdr w' p T (fun b => P b ∧ b < w.heap.size) s') (L : List Value) :
    RdSt w (w'.alloc (.cells L.toArray 31)) p T P w.heap.size w'.heap.size L s' := by
  have hpl : p < w.heap.size := by obtain ⟨_, _, _, h, _⟩ := hr; exact h.lt
  have hs := hk1.size
  have hs' : (w.alloc (.cells (frL (FN.zero 0) .nil .nil).toArray 31)).heap.size = w.heap.size + 1 := by simp
  exact ⟨hr1.kept ((Kept.refl (fun _ => False) w').alloc _) (fun h => h) (fun _ _ h => h), ((At.new w _ _).kept hk1 (by omega)).alloc _, At.new _ _ _, ((Kept.of_below ((Below.refl _ _).alloc (Nat.le_refl _) _) _).trans hk1).alloc _, Nat.le_refl _, by omega, by omega, hpl⟩
end
theorem Own.inD {w : World} {base n c : Nat} {e : TypeId} {A : Option Addr} {bs : List Int} (h : Own w base e (.slice A n c) bs) (hn : bs.length = n) : InD w (fun b => base ≤ b) ⟨A, n, c⟩ bs := by
  have hA := h.nil_cap
  obtain ⟨A', c', e', h1, h2, h3⟩ := h.open_n n hn
  injection e' with e1 e2 e3
  subst e1; subst e3
  have := (h.rdP hn).mono (P' := fun b => base ≤ b) (fun b _ hb => (h.block_lt b hb).1)
  exact ⟨this, h1, h2, hA⟩
theorem Own.len_eq {w : World} {base n c : Nat} {e : TypeId} {A : Option Addr} {bs : List Int} (h : Own w base e (.slice A n c) bs) : bs.length = n := by
  obtain ⟨A', c', e', _⟩ := h.open_
  injection e' with e1 e2 e3
  exact e2.symm
/-- What a row of a later base reads as, where the frame's block was written. -/
theorem InD.after {w w' : World} {g5 base : Nat} {d : Sl} {ds : List Int} (h : InD w (fun b => base ≤ b) d ds) (hg : g5 < base) (b0 : Nat) (hb0 : b0 ≤ base) (hk : Kept (· = g5) w w') : InD w' (fun b => b0 ≤ b) d ds := by
  have := h.kept hk (fun b hb e => by omega)
  exact ⟨this.rd.mono (fun b _ hb => by omega), this.lc, this.cm, this.nil⟩
theorem InR.after {w w' : World} {g5 base : Nat} {d : Sl} {ds : RS} (h : InR w (fun b => base ≤ b) d ds) (hg : g5 < base) (b0 : Nat) (hb0 : b0 ≤ base) (hk : Kept (· = g5) w w') : InR w' (fun b => b0 ≤ b) d ds := by
  have := h.kept hk (fun b hb e => by omega)
  exact ⟨this.rd.mono (fun b _ hb => by omega), this.lc, this.cm, this.nil⟩
theorem wf_set {m : FN} (h : m.wf) (s o l c f q y : Int) (fin : Bool) (hs : 0 ≤ s ∧ s ≤ 4611686018427387903) (ho : 0 ≤ o ∧ o ≤ 4611686018427387903) (hl : 0 ≤ l ∧ l ≤ 4611686018427387903) (hc : 0 ≤ c ∧ c ≤ 4611686018427387903) (hf : 0 ≤ f ∧ f ≤ 4611686018427387903) (hq : 0 ≤ q ∧ q ≤ 4611686018427387903) (hy : 0 ≤ y ∧ y ≤ 4611686018427387903) :
    ({ m with s := s, o := o, l := l, c := c, f := f, q := q, y := y, fin := fin } : FN).wf :=
  ⟨h.k0, h.k1, hs.1, by show s < _; omega, ho.1, by show o < _; omega, hl.1, by show l < _; omega, hc.1, by show c < _; omega, hf.1, by show f < _; omega, hq.1, by show q < _; omega, hy.1, by show y < _; omega, h.cid⟩
theorem wf_withC {m : FN} (h : m.wf) (c : List Int) (hc : Byt c) : (withC m c).wf :=
  ⟨h.k0, h.k1, h.s0, h.s1, h.o0, h.o1, h.l0, h.l1, h.c0, h.c1, h.f0, h.f1, h.q0, h.q1, h.y0, h.y1, fun x hx => by
    simp only [withC, List.mem_cons, List.not_mem_nil, or_false] at hx
    rcases hx with rfl | rfl | rfl | rfl | rfl | rfl | rfl | rfl <;> exact hc.getD _⟩
theorem takeR_byt (s : St) (n : Int) (h : Byt s.1) : Byt (takeR s n) := by
  unfold takeR
  split
  · exact h.take _
  · exact Byt.nil
theorem z62 : (0 : Int) ≤ 0 ∧ (0 : Int) ≤ 4611686018427387903 := by omega
/-- An Ack's delay. -/
theorem ackR_bd (s : St) (h : Byt (varN s).1) : 0 ≤ (ackR s).2.1 ∧ (ackR s).2.1 ≤ 4611686018427387903 := by
  unfold ackR
  split <;> exact varR_bd _ h
theorem varN_byt (s : St) (h : Byt s.1) : Byt (varN s).1 := by
  unfold varN takeN
  split
  · exact Byt.nil
  · split
    · exact h.drop _
    · exact Byt.nil
end Go.Proofs.Ytcobcgbpmkpljaa
