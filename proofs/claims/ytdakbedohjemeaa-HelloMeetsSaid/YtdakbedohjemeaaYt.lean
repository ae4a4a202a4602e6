/-
  HelloMeets: the ways of both sides, how far they are (J), the law's world (Mt), a slice of a row.
-/
import Derived.Test.YtdakbedohjemeaaMq17
import Derived.Test.YtdakbedohjemeaaMq18
import Derived.Test.YtdakbedohjemeaaMq20
namespace Go.Proofs.Ytdakbedohjemeaa
set_option linter.unusedVariables false
set_option linter.unusedSimpArgs false
open Go.RowKit Go.ChangeShapes Go.WideShapes Go.Deep
theorem putS_small : ∀ n : Nat, n ≤ 8 → (putS (n : Int)).length = 1 := by
  intro n hn
  have : n = 0 ∨ n = 1 ∨ n = 2 ∨ n = 3 ∨ n = 4 ∨ n = 5 ∨ n = 6 ∨ n = 7 ∨ n = 8 := by omega
  rcases this with rfl | rfl | rfl | rfl | rfl | rfl | rfl | rfl | rfl <;> rfl
theorem numB_10 (id n : Int) (h : (putS id).length = 1) : (numB id n).length ≤ 10 := by
  unfold numB
  split
  · simp
  · have h1 := putS_le n
    have h2 := putS_small _ h1
    unfold textB
    simp only [List.length_append, h, h2]
    omega
theorem pencS_50 (p : PN) : 10 ≤ (pencS p).length ∧ (pencS p).length ≤ 50 := by
  have h1 : (putS 0).length = 1 := rfl
  have h2 : (textB p.c.l).length = 9 := rfl
  have N1 := numB_10 1 p.i rfl
  have N2 := numB_10 4 p.d rfl
  have N3 := numB_10 5 p.s rfl
  have N4 := numB_10 8 p.m rfl
  unfold pencS
  simp only [List.length_append, h1, h2]
  omega
section
variable (psk : Int) (m m' : N8) (p q : PN)
def shS : Int := keyedS psk (helS m p ++ helS m' q)
/-- What a side is behind the other's hello, behind its finished. -/
def XgS : HS := { hs0 true psk m p with th := q, st := 1, sh := shS psk m m' p q }
def XeS : HS := { hs0 true psk m p with th := q, st := 2, sh := shS psk m m' p q }
def YgS : HS := { hs0 false psk m' q with th := p, st := 1, sh := shS psk m m' p q }
def YeS : HS := { hs0 false psk m' q with th := p, st := 2, sh := shS psk m m' p q }
theorem way_asks (hq : q.wf) (rq : prightB q = true) : Way (hs0 true psk m p) (XgS psk m m' p q) (XeS psk m m' p q) (m'.l ++ pencS q) (proofS (shS psk m m' p q) false).l := by
  have hl := pencS_50 q
  have hd : decodeS ((m'.l ++ pencS q).drop 8) = some q := dec_enc q hq rq
  have hb2 : (proofS (shS psk m m' p q) false).l.length = 8 := rfl
  refine ⟨⟨rfl, rfl, .inl ⟨rfl, rfl, rfl⟩, by rw [List.length_append]; show 8 + _ ≤ 200; omega⟩, ⟨rfl, rfl, .inr ⟨rfl, rfl, rfl⟩, by rw [hb2]; omega⟩, ?_, ?_, ?_, ?_, rfl, hb2, rfl, rfl, rfl⟩
  · show meetE _ = 0
    unfold meetE
    rw [hd]
  · have hrow : rowsS (hs0 true psk m p) (m'.l ++ pencS q) = helS m p ++ helS m' q := by unfold rowsS; exact if_pos rfl
    show meetX _ _ = _
    unfold meetX
    rw [hd, hrow]
    unfold XgS shS
    rfl
  · have hc : (proofS (shS psk m m' p q) false).l = (proofS (XgS psk m m' p q).sh (!(XgS psk m m' p q).az)).l := congrArg N8.l (show proofS (shS psk m m' p q) false = proofS (shS psk m m' p q) (!true) from rfl)
    have hn : ¬ (XgS psk m m' p q).st = 0 := by show ¬ (1 : Int) = 0; omega
    unfold readE
    rw [if_neg hn]
    unfold checkE
    rw [if_pos hc]
  · have hc : (proofS (shS psk m m' p q) false).l = (proofS (XgS psk m m' p q).sh (!(XgS psk m m' p q).az)).l := congrArg N8.l (show proofS (shS psk m m' p q) false = proofS (shS psk m m' p q) (!true) from rfl)
    have hn : ¬ (XgS psk m m' p q).st = 0 := by show ¬ (1 : Int) = 0; omega
    unfold readX
    rw [if_neg hn]
    unfold checkX
    rw [if_pos hc]
    rfl
theorem way_answers (hp : p.wf) (rp : prightB p = true) : Way (hs0 false psk m' q) (YgS psk m m' p q) (YeS psk m m' p q) (m.l ++ pencS p) (proofS (shS psk m m' p q) true).l := by
  have hl := pencS_50 p
  have hd : decodeS ((m.l ++ pencS p).drop 8) = some p := dec_enc p hp rp
  have hb2 : (proofS (shS psk m m' p q) true).l.length = 8 := rfl
  refine ⟨⟨rfl, rfl, .inl ⟨rfl, rfl, rfl⟩, by rw [List.length_append]; show 8 + _ ≤ 200; omega⟩, ⟨rfl, rfl, .inr ⟨rfl, rfl, rfl⟩, by rw [hb2]; omega⟩, ?_, ?_, ?_, ?_, rfl, hb2, rfl, rfl, rfl⟩
  · show meetE _ = 0
    unfold meetE
    rw [hd]
  · have hrow : rowsS (hs0 false psk m' q) (m.l ++ pencS p) = helS m p ++ helS m' q := by unfold rowsS; exact if_neg (by intro h; cases h)
    show meetX _ _ = _
    unfold meetX
    rw [hd, hrow]
    unfold YgS shS
    rfl
  · have hc : (proofS (shS psk m m' p q) true).l = (proofS (YgS psk m m' p q).sh (!(YgS psk m m' p q).az)).l := congrArg N8.l (show proofS (shS psk m m' p q) true = proofS (shS psk m m' p q) (!false) from rfl)
    have hn : ¬ (YgS psk m m' p q).st = 0 := by show ¬ (1 : Int) = 0; omega
    unfold readE
    rw [if_neg hn]
    unfold checkE
    rw [if_pos hc]
  · have hc : (proofS (shS psk m m' p q) true).l = (proofS (YgS psk m m' p q).sh (!(YgS psk m m' p q).az)).l := congrArg N8.l (show proofS (shS psk m m' p q) true = proofS (shS psk m m' p q) (!false) from rfl)
    have hn : ¬ (YgS psk m m' p q).st = 0 := by show ¬ (1 : Int) = 0; omega
    unfold readX
    rw [if_neg hn]
    unfold checkX
    rw [if_pos hc]
    rfl
end
/-- How far both are: y has a0 of x's hello, a1 of its finished; x has c0, c1 of y's. -/
structure Jm (N1 N2 a0 a1 c0 c1 : Nat) : Prop where
  n1 : 0 < N1
  n2 : 0 < N2
  la0 : a0 ≤ N1
  lc0 : c0 ≤ N2
  la1 : a1 ≤ 11
  lc1 : c1 ≤ 11
  ca : 0 < c0 → a0 = N1
  cc : 0 < c1 → c0 = N2
  ac : 0 < a1 → c1 = 11
def remM (N1 N2 a0 a1 c0 c1 : Nat) : Nat := (N1 - a0) + (11 - a1) + ((N2 - c0) + (11 - c1))
section
variable {N1 N2 a0 a1 c0 c1 : Nat}
theorem Jm.stepA (h : Jm N1 N2 a0 a1 c0 c1) (k : Nat) (hk : k ≤ N1 - a0) : Jm N1 N2 (a0 + k) a1 c0 c1 := by
  obtain ⟨h1, h2, h3, h4, h5, h6, h7, h8, h9⟩ := h
  exact ⟨h1, h2, by omega, h4, h5, h6, by omega, h8, h9⟩
theorem Jm.stepB (h : Jm N1 N2 a0 a1 c0 c1) (k : Nat) (hk : k ≤ (if a0 = N1 then N2 else 0) - c0) : Jm N1 N2 a0 a1 (c0 + k) c1 := by
  obtain ⟨h1, h2, h3, h4, h5, h6, h7, h8, h9⟩ := h
  split at hk
  · exact ⟨h1, h2, by omega, by omega, h5, h6, by omega, by omega, h9⟩
  · obtain rfl : k = 0 := by omega
    exact ⟨h1, h2, by omega, by omega, h5, h6, by omega, by omega, h9⟩
theorem Jm.stepC (h : Jm N1 N2 a0 a1 c0 c1) (k : Nat) (hk : k ≤ (if c1 = 11 then 11 else 0) - a1) : Jm N1 N2 a0 (a1 + k) c0 c1 := by
  obtain ⟨h1, h2, h3, h4, h5, h6, h7, h8, h9⟩ := h
  split at hk
  · exact ⟨h1, h2, h3, h4, by omega, h6, h7, h8, fun _ => by assumption⟩
  · obtain rfl : k = 0 := by omega
    exact ⟨h1, h2, h3, h4, by omega, h6, h7, h8, h9⟩
theorem Jm.stepD (h : Jm N1 N2 a0 a1 c0 c1) (k : Nat) (hk : k ≤ (if a0 = N1 then 11 else 0) - c1) (hf : c0 = N2 ∨ k = 0) : Jm N1 N2 a0 a1 c0 (c1 + k) := by
  obtain ⟨h1, h2, h3, h4, h5, h6, h7, h8, h9⟩ := h
  split at hk
  · exact ⟨h1, h2, h3, h4, h5, by omega, h7, by omega, by omega⟩
  · obtain rfl : k = 0 := by omega
    exact ⟨h1, h2, h3, h4, h5, by omega, h7, by omega, by omega⟩
theorem Jm.fin (h : Jm N1 N2 a0 a1 c0 c1) (hr : remM N1 N2 a0 a1 c0 c1 = 0) : a0 = N1 ∧ a1 = 11 ∧ c0 = N2 ∧ c1 = 11 := by
  obtain ⟨h1, h2, h3, h4, h5, h6, h7, h8, h9⟩ := h
  unfold remM at hr
  omega
end
section
variable {w0 W W' W1 : World} {p q : Nat} {X Y X' Y' : HS} {F F' : Nat → Prop}
theorem At.blocks {W W' : World} {p : Nat} {T : TypeId} {l : List Value} (h : At W p T l) (k : W'.heap[p]? = W.heap[p]?) : At W' p T l := k.trans h
/-- The law's world: both sides, what was told of each, the params. -/
structure Mt (w W : World) (px py g19 g20 gp : Nat) (L1 L2 : List Value) (X Y : HS) (b0 b1 d0 d1 : Nat) : Prop where
  tw : Tw w W px py X Y (fun b => b = g19 ∨ b = g20 ∨ b = gp ∨ b = gp + 1)
  a19 : At W g19 51 [.int .i64 b0, .int .i64 b1]
  a20 : At W g20 51 [.int .i64 d0, .int .i64 d1]
  p1 : At W gp 26 L1
  p2 : At W (gp + 1) 26 L2
  n1 : g19 ≠ g20
  n2 : gp ≠ g19
  n3 : gp ≠ g20
  n4 : gp + 1 ≠ g19
  n5 : gp + 1 ≠ g20
  lo : w.heap.size ≤ g19 ∧ w.heap.size ≤ g20
variable {w : World} {px py g19 g20 gp : Nat} {L1 L2 : List Value} {b0 b1 d0 d1 : Nat}
theorem Mt.below (h : Mt w W px py g19 g20 gp L1 L2 X Y b0 b1 d0 d1) (k : Below W.heap.size W W') : Mt w W' px py g19 g20 gp L1 L2 X Y b0 b1 d0 d1 :=
  { h with tw := h.tw.below k, a19 := h.a19.below k h.a19.lt, a20 := h.a20.below k h.a20.lt, p1 := h.p1.below k h.p1.lt, p2 := h.p2.below k h.p2.lt }
theorem Mt.drewN (h : Mt w W px py g19 g20 gp L1 L2 X Y b0 b1 d0 d1) (n : Nat) : Mt w (W.drewN n) px py g19 g20 gp L1 L2 X Y b0 b1 d0 d1 := h.below (belowN (Below.refl _ _) n)
theorem mt_feedY (h : Mt w W px py g19 g20 gp L1 L2 X Y b0 b1 d0 d1) (k : Below W.heap.size W W1) (space : Int) (A : Option Addr) (n c : Nat) (bs : List Int) (hr : RdP W1 (fun b => W.heap.size ≤ b) A n bs) (hn : n ≤ 140737488355000) (hc : (feedX Y space bs).code = 0) :
    Calls Try.prog 20 #[.pointer (some ⟨py, 0, none⟩), .int .i64 space, .slice A n c] W1 fun e w' => e = .returned (.int .i64 0) ∧ Mt w w' px py g19 g20 gp L1 L2 X (feedX Y space bs) b0 b1 d0 d1 := by
  refine (tw_feed h.tw.swap k space A n c bs (hr.mono fun b _ hb => .inr hb) hn).mono fun e w' ⟨he, h1, h2, h3⟩ => ?_
  rw [hc] at he
  have hk := h.below k
  exact ⟨he, { h with tw := h1.swap, a19 := hk.a19.blocks (h2 _ (.inl rfl)), a20 := hk.a20.blocks (h2 _ (.inr (.inl rfl))), p1 := hk.p1.blocks (h2 _ (.inr (.inr (.inl rfl)))), p2 := hk.p2.blocks (h2 _ (.inr (.inr (.inr rfl)))) }⟩
theorem mt_feedX (h : Mt w W px py g19 g20 gp L1 L2 X Y b0 b1 d0 d1) (k : Below W.heap.size W W1) (space : Int) (A : Option Addr) (n c : Nat) (bs : List Int) (hr : RdP W1 (fun b => W.heap.size ≤ b) A n bs) (hn : n ≤ 140737488355000) (hc : (feedX X space bs).code = 0) :
    Calls Try.prog 20 #[.pointer (some ⟨px, 0, none⟩), .int .i64 space, .slice A n c] W1 fun e w' => e = .returned (.int .i64 0) ∧ Mt w w' px py g19 g20 gp L1 L2 (feedX X space bs) Y b0 b1 d0 d1 := by
  refine (tw_feed h.tw k space A n c bs (hr.mono fun b _ hb => .inr hb) hn).mono fun e w' ⟨he, h1, h2, h3⟩ => ?_
  rw [hc] at he
  have hk := h.below k
  exact ⟨he, { h with tw := h1, a19 := hk.a19.blocks (h2 _ (.inl rfl)), a20 := hk.a20.blocks (h2 _ (.inr (.inl rfl))), p1 := hk.p1.blocks (h2 _ (.inr (.inr (.inl rfl)))), p2 := hk.p2.blocks (h2 _ (.inr (.inr (.inr rfl)))) }⟩
/-- A number of what was told is stored. -/
theorem Mt.set19 (h : Mt w W px py g19 g20 gp L1 L2 X Y b0 b1 d0 d1) (j : Nat) (u : Value) {b0' b1' : Nat} (he : [Value.int .i64 b0, Value.int .i64 b1].set j u = [Value.int .i64 b0', Value.int .i64 b1']) : Mt w (W.setCell ⟨g19, j, none⟩ u) px py g19 g20 gp L1 L2 X Y b0' b1' d0 d1 := by
  have k : Kept (· = g19) W (W.setCell ⟨g19, j, none⟩ u) := (Kept.refl _ _).setAt j u
  exact { h with tw := h.tw.set (.inl rfl) h.lo.1 j u, a19 := he ▸ h.a19.set j u, a20 := h.a20.kept k (fun e => h.n1 e.symm), p1 := h.p1.kept k h.n2, p2 := h.p2.kept k h.n4 }
theorem Mt.set20 (h : Mt w W px py g19 g20 gp L1 L2 X Y b0 b1 d0 d1) (j : Nat) (u : Value) {d0' d1' : Nat} (he : [Value.int .i64 d0, Value.int .i64 d1].set j u = [Value.int .i64 d0', Value.int .i64 d1']) : Mt w (W.setCell ⟨g20, j, none⟩ u) px py g19 g20 gp L1 L2 X Y b0 b1 d0' d1' := by
  have k : Kept (· = g20) W (W.setCell ⟨g20, j, none⟩ u) := (Kept.refl _ _).setAt j u
  exact { h with tw := h.tw.set (.inr (.inl rfl)) h.lo.2 j u, a20 := he ▸ h.a20.set j u, a19 := h.a19.kept k h.n1, p1 := h.p1.kept k h.n3, p2 := h.p2.kept k h.n5 }
end
/-- A slice of a row: what it yields, in whatever world. -/
theorem yl_slice {ops : Array Oper} {S : World → Prop} {o : Oper} {a : Act} (x lo hi : Operand) (ho : o.op = .slice 31 x (some lo) (some hi) none) (A : Option Addr) (n c l k : Nat) (hx : a.eval x = .slice A n c) (hlo : a.eval lo = .int .i64 l) (hhi : a.eval hi = .int .i64 ((l : Int) + (k : Int))) (hc : l + k ≤ c)
    (hw : Region.wanted o (yielded ops a.tmps) = true) : YieldsIf Try.prog ops S o (.slice (cutA A c l) k (c - l)) a := by
  refine .inl ⟨hw, fun w _ => ?_⟩
  have hu : Try.prog.underlying 31 = some (.slice (Try.prog.elem 31)) := by kernel_rfl
  have hs : (sizeOf (Try.prog.elem 31)).run Try.prog w = .ok 1 w := by
    obtain ⟨i0, hi, hz0, hz1, hz2⟩ := info_parts u8_info
    have e : Try.prog.elem 31 = 5 := by kernel_rfl
    rw [e]
    simp [sizeOf, typeInfo, hi, hz1]
  unfold execOp
  simp only [ho, hx, hlo, hhi, Option.map]
  have h1 := run_sliceAt_slice (P := Try.prog) (w := w) 31 (.slice A n c) (some (.int .i64 l)) (some (.int .i64 ((l : Int) + k))) none hu
  have h2 := run_slice_lh (P := Try.prog) (w := w) 31 A n c hu .i64 .i64 (l : Int) ((l : Int) + k) (by omega) (by omega) (by omega)
  rw [hs] at h2
  simp only [Sem.run_bind, h1, h2, Result.andThen_ok]
  have e1 : ((l : Int)).toNat = l := by omega
  have e2 : ((l : Int) + (k : Int)).toNat = l + k := by omega
  rw [e1, e2]
  show Result.ok (Next.value (sliced A l (l + k) c 1)) w = _
  unfold sliced cutA
  rw [Nat.mul_one, Nat.add_sub_cancel_left]
end Go.Proofs.Ytdakbedohjemeaa
