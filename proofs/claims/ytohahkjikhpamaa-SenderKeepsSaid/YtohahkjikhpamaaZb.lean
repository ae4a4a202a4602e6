/-
  sender.Sender: Acked, Lost.
-/
import Derived.Test.YtohahkjikhpamaaMq15
import Derived.StillTailTactics
namespace Go.Proofs.Ytohahkjikhpamaa
set_option linter.unusedVariables false
set_option linter.unusedSimpArgs false
open Go.RowKit
theorem fr_box (W : World) (m : FN) (d r : Sl) : ∃ (L : List Value) (W1 : World), frV m d r = .agg L.toArray ∧ W.alloc (.cells L.toArray 43) = W1 ∧ Below W.heap.size W W1 ∧
    W1.cell? ⟨W.heap.size, 0, none⟩ = some (.int .i64 m.k) ∧ W1.cell? ⟨W.heap.size, 1, none⟩ = some (.int .u64 m.s) ∧ W1.cell? ⟨W.heap.size, 2, none⟩ = some (.int .u64 m.o) ∧ W1.cell? ⟨W.heap.size, 3, none⟩ = some (.slice d.A d.n d.c) ∧ W1.cell? ⟨W.heap.size, 4, none⟩ = some (.bool m.fin) := by
  have hA := At.new W 43 (frL m d r)
  exact ⟨frL m d r, _, rfl, rfl, (Below.refl _ _).alloc (Nat.le_refl _) _, by rw [hA.cell]; rfl, by rw [hA.cell]; rfl, by rw [hA.cell]; rfl, by rw [hA.cell]; rfl, by rw [hA.cell]; rfl⟩
section
variable {w0 W W1 W' : World} {q p : Nat} {X X' : SS} {F : Nat → Prop}
theorem Sm.Flt (h : Sm w0 W q p X F) : ∀ b, F b → b < W.heap.size := by
  obtain ⟨O, h1, h2⟩ := h.oz.bf
  exact fun b hb => (h2 b (.inr hb)).2
theorem Sm.after (h : Sm w0 W q p X F) (k : Below W.heap.size W W1) {r : Value} {e : Ending} (hP : SmPost w0 W1 q p X' F r e W') : SmPost w0 W q p X' F r e W' :=
  ⟨hP.1, hP.2.1, fun b hb => (hP.2.2.1 b hb).trans (k.block b (h.Flt b hb)), Nat.le_trans k.size hP.2.2.2⟩
theorem Sm.same (h : Sm w0 W q p X F) (k : Below W.heap.size W W') (r : Value) : SmPost w0 W q p X F r (.returned r) W' := ⟨rfl, h.below k, fun b hb => k.block b (h.Flt b hb), k.size⟩
def lostX (X : SS) (off n : Nat) (fin : Bool) : SS := { X with o := lostO X.o off n fin }
def ackX (X : SS) (off n : Nat) (fin : Bool) : SS := { X with o := ackO X.o off n fin, st := if X.st = 3 ∧ wholeO (ackO X.o off n fin) = true then 4 else X.st }
set_option maxRecDepth 100000 in
set_option maxHeartbeats 2000000 in
theorem sm_lost (h : Sm w0 W q p X F) (hL : X.o.bs.length ≤ 1099511627776) (m : FN) (d r : Sl) (hk : m.k = 8) (hs : m.s = X.id) (off : Nat) (ho : m.o = off) (hob : off < 18446744073709551616) (hdn : d.n < 9223372036854775808) :
    Calls Try.prog 14 #[.pointer (some ⟨q, 0, none⟩), frV m d r] W (SmPost w0 W q p (lostX X off d.n m.fin) F (.tuple #[])) := by
  obtain ⟨L, W1, hfv, hW1, hB, d0, d1, d2, d3, d4⟩ := fr_box W m d r
  rw [hk] at d0
  rw [hs] at d1
  rw [ho] at d2
  generalize m.fin = fi at *
  obtain ⟨dA, dn, dc⟩ := d
  simp only at d3 hdn ⊢
  have h1 := h.below hB
  have c0 := h1.c0
  have c4 := h1.c4
  have HC := Lib.hid (fun (W2 : World) (h2 : Sm w0 W2 q p X F) => (oz_lost h2.oz hL off hob dn (by omega) fi).mono fun e w' hP => h2.buf hP)
  have HA := Lib.hid (fun (W2 : World) (k2 : Below W.heap.size W W2) (X' : SS) (r : Value) (e : Ending) (W' : World) (hP : SmPost w0 W2 q p X' F r e W') => h.after k2 hP)
  have HB := Lib.hid hB
  have H1 := Lib.hid h1
  rw [hfv]
  clear hfv h h1 hB ho hs hk
  go_enter Try.func14, Try.ntmps14
  go_wp2
  go_quiet (fail)
  have h2 := Lib.hid (And.intro (H1.out.drewN nq) (below_drewN HB.out nq))
  have e0 : (W1.drewN nq).cell? ⟨W.heap.size, 0, none⟩ = _ := d0
  have e2 : (W1.drewN nq).cell? ⟨W.heap.size, 2, none⟩ = _ := d2
  have e3 : (W1.drewN nq).cell? ⟨W.heap.size, 3, none⟩ = _ := d3
  have e4 : (W1.drewN nq).cell? ⟨W.heap.size, 4, none⟩ = _ := d4
  have e5 : (W1.drewN nq).cell? ⟨q, 4, none⟩ = _ := c4
  generalize W1.drewN nq = W2 at h2 e0 e2 e3 e4 e5 ⊢
  clear d0 d1 d2 d3 d4 c0 c4 H1 HB hW1
  go_wp2
  go_still_tail 11, (by kernel_rfl)
  change wpList _ _ _ _ _ (World.drew W2)
  have h3 := Lib.hid (And.intro (h2.out.1.drewN 1) (below_drewN h2.out.2 1))
  have HC3 := Lib.hid (HC.out (W2.drewN 1) h3.out.1)
  change wpList _ _ _ _ _ (World.drewN W2 1)
  generalize W2.drewN 1 = W3 at h3 HC3 ⊢
  go_wp2_with (go_at_call 27; (with_reducible refine HC3.out.mono ?_); intro e w4 hP; have HP := Lib.hid hP; obtain ⟨he, _⟩ := hP; subst he)
  go_end0
  exact HA.out W3 h3.out.2 _ _ _ _ ⟨rfl, HP.out.2⟩
set_option maxRecDepth 100000 in
set_option maxHeartbeats 2000000 in
theorem sm_acked (h : Sm w0 W q p X F) (hL : X.o.bs.length ≤ 1099511627776) (m : FN) (d r : Sl) (hk : m.k = 8) (hs : m.s = X.id) (off : Nat) (ho : m.o = off) (hob : off < 18446744073709551616) (hdn : d.n < 9223372036854775808) :
    Calls Try.prog 15 #[.pointer (some ⟨q, 0, none⟩), frV m d r] W (SmPost w0 W q p (ackX X off d.n m.fin) F (.tuple #[])) := by
  obtain ⟨L, W1, hfv, hW1, hB, d0, d1, d2, d3, d4⟩ := fr_box W m d r
  rw [hk] at d0
  rw [hs] at d1
  rw [ho] at d2
  generalize m.fin = fi at *
  obtain ⟨dA, dn, dc⟩ := d
  simp only at d3 hdn ⊢
  have h1 := h.below hB
  have c0 := h1.c0
  have c4 := h1.c4
  obtain ⟨S', hS'⟩ : ∃ S', ackO X.o off dn fi = S' := ⟨_, rfl⟩
  have HC := Lib.hid (fun (W2 : World) (h2 : Sm w0 W2 q p X F) => (oz_acked h2.oz hL off hob dn (by omega) fi).mono fun e w' hP => h2.buf hP)
  rw [show ((dn : Nat) : Int).toNat = dn by omega, hS'] at HC
  have HA := Lib.hid (fun (W2 : World) (k2 : Below W.heap.size W W2) (X' : SS) (r : Value) (e : Ending) (W' : World) (hP : SmPost w0 W2 q p X' F r e W') => h.after k2 hP)
  have HB := Lib.hid hB
  have H1 := Lib.hid h1
  have hX : ackX X off dn fi = { X with o := S', st := if X.st = 3 ∧ wholeO S' = true then 4 else X.st } := by unfold ackX; rw [hS']
  obtain ⟨ns, hns⟩ : ∃ ns, (if X.st = 3 ∧ wholeO S' = true then 4 else X.st) = ns := ⟨_, rfl⟩
  have hcase : Hid ((X.st = 3 ∧ wholeO S' = true ∧ ns = 4) ∨ (X.st = 3 ∧ wholeO S' = false ∧ ns = X.st) ∨ (X.st ≠ 3 ∧ ns = X.st)) := Lib.hid (by
    rw [← hns]
    cases wholeO S' with
    | true => by_cases h3 : X.st = 3 <;> simp [h3]
    | false => by_cases h3 : X.st = 3 <;> simp [h3])
  rw [hfv, hX, hns]
  clear hfv h h1 hB ho hs hk hX hS' hns
  have HWH := Lib.hid (fun (W2 : World) (h2 : Sm w0 W2 q p { X with o := S' } F) => oz_whole h2.oz)
  have HT := Lib.hid (fun (W2 : World) (h2 : Sm w0 W2 q p { X with o := S' } F) => h2.top (X' := { X with o := S', st := 4 }) ((Kept.refl _ W2).setAt 2 (.int .i64 4)) (h2.at_.set 2 (.int .i64 4)) rfl ⟨h2.ok.id, h2.ok.lim, h2.ok.code, .inr (.inr (.inr (.inl rfl)))⟩)
  go_enter Try.func15, Try.ntmps15
  go_wp2
  go_quiet (fail)
  have h2 := Lib.hid (And.intro (H1.out.drewN nq) (below_drewN HB.out nq))
  have e0 : (W1.drewN nq).cell? ⟨W.heap.size, 0, none⟩ = _ := d0
  have e2 : (W1.drewN nq).cell? ⟨W.heap.size, 2, none⟩ = _ := d2
  have e3 : (W1.drewN nq).cell? ⟨W.heap.size, 3, none⟩ = _ := d3
  have e4 : (W1.drewN nq).cell? ⟨W.heap.size, 4, none⟩ = _ := d4
  have e5 : (W1.drewN nq).cell? ⟨q, 4, none⟩ = _ := c4
  generalize W1.drewN nq = W2 at h2 e0 e2 e3 e4 e5 ⊢
  clear d0 d1 d2 d3 d4 c0 c4 H1 HB hW1
  go_wp2
  go_still_tail 11, (by kernel_rfl)
  change wpList _ _ _ _ _ (World.drew W2)
  have h3 := Lib.hid (And.intro (h2.out.1.drewN 1) (below_drewN h2.out.2 1))
  have HC3 := Lib.hid (HC.out (W2.drewN 1) h3.out.1)
  change wpList _ _ _ _ _ (World.drewN W2 1)
  generalize W2.drewN 1 = W3 at h3 HC3 ⊢
  clear HC h2 e0 e2 e3 e4 e5
  rcases hcase.out with ⟨hc1, hc2, rfl⟩ | ⟨hc1, hc2, hns⟩ | ⟨hc1, hns⟩
  · rw [hc2] at HWH
    have HC1 := Lib.hid hc1
    clear hc1 hc2
    go_wp2_with (first
      | (go_at_call 28; (with_reducible refine HC3.out.mono ?_); rintro e w4 ⟨rfl, hP, hP2⟩; have HP := Lib.hid (And.intro hP hP2); have HW4 := Lib.hid (HWH.out w4 hP); have x2 := hP.c2; simp only [HC1.out] at x2; have x4 := hP.c4; have f2 := hP.at_.frozen 2; clear hP hP2)
      | (go_at_call 29; (with_reducible refine HW4.out.mono ?_); rintro e w5 ⟨rfl, hw5⟩; rw [hw5]; clear hw5))
    go_end0
    obtain ⟨y1, y2, y3⟩ := HT.out _ HP.out.1
    exact HA.out W3 h3.out.2 _ _ _ _ ⟨rfl, y1, fun b hb => (y2 b hb).trans (HP.out.2.1 b hb), Nat.le_trans HP.out.2.2 y3⟩
  · rw [hc2] at HWH
    subst hns
    have HC1 := Lib.hid hc1
    clear hc1 hc2
    go_wp2_with (first
      | (go_at_call 28; (with_reducible refine HC3.out.mono ?_); rintro e w4 ⟨rfl, hP, hP2⟩; have HP := Lib.hid (And.intro hP hP2); have HW4 := Lib.hid (HWH.out w4 hP); have x2 := hP.c2; simp only [HC1.out] at x2; have x4 := hP.c4; clear hP hP2)
      | (go_at_call 29; (with_reducible refine HW4.out.mono ?_); rintro e w5 ⟨rfl, hw5⟩; rw [hw5]; clear hw5))
    go_end0
    exact HA.out W3 h3.out.2 _ _ _ _ ⟨rfl, HP.out⟩
  · subst hns
    have hs3 : ((X.st : Int) == 3) = false := by simp; omega
    clear hc1
    go_wp2_with (go_at_call 28; (with_reducible refine HC3.out.mono ?_); rintro e w4 ⟨rfl, hP, hP2⟩; have HP := Lib.hid (And.intro hP hP2); have x2 := hP.c2; simp only at x2; have x4 := hP.c4; clear hP hP2)
    go_end0
    exact HA.out W3 h3.out.2 _ _ _ _ ⟨rfl, HP.out⟩
end
end Go.Proofs.Ytohahkjikhpamaa
