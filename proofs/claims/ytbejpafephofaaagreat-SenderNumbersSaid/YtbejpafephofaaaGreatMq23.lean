/-
  sender.Sender: Next; the law's known.
-/
import Derived.Test.YtbejpafephofaaaGreatZd
import Derived.Test.YtbejpafephofaaaGreatMq5
import Derived.Test.YtbejpafephofaaaGreatMq16
import Derived.Test.YtbejpafephofaaaGreatMq17
namespace Go.Proofs.YtbejpafephofaaaGreat
section
set_option linter.unusedVariables false
set_option linter.unusedSimpArgs false
open Go.RowKit
/-- Does Next tell bytes, does it tell the Reset? -/
def nxB (X : SS) (room : Int) (more : Nat) : Prop := X.st ≤ 3 ∧ 20 ≤ room ∧ (nextR X.o (moS room) (lmS X more)).yes = true
def nxR (X : SS) (room : Int) : Prop := X.st = 5 ∧ X.due = true ∧ zsR X ≤ room
/-- What Next tells: the frame's cells L, yes, the sender behind it, the frame's bytes. -/
def NxG (X : SS) (room : Int) (more : Nat) (L : List Value) (b : Bool) (X' : SS) (v : Value) (bs : List Int) : Prop :=
  (b = false ∧ ¬ nxB X room more ∧ ¬ nxR X room ∧ L = frL (FN.zero 0) .nil .nil ∧ X' = X) ∨
  (b = true ∧ nxR X room ∧ L = frL (m4 X.id X.code X.o.gn) .nil .nil ∧ X' = { X with due := false }) ∨
  (b = true ∧ nxB X room more ∧ X' = nextX X (moS room) (lmS X more) ∧ ∃ A c, (nextR X.o (moS room) (lmS X more)).n ≤ c ∧ c ≤ maxLen ∧ v = .slice A (nextR X.o (moS room) (lmS X more)).n c ∧
    L = frL (m8 X.id (nextR X.o (moS room) (lmS X more)).off (nextR X.o (moS room) (lmS X more)).fin) ⟨A, (nextR X.o (moS room) (lmS X more)).n, c⟩ .nil ∧ bs = (X.o.bs.drop (nextR X.o (moS room) (lmS X more)).off).take (nextR X.o (moS room) (lmS X more)).n)
theorem NxG.len {X X' : SS} {room : Int} {more : Nat} {L : List Value} {b : Bool} {v : Value} {bs : List Int} (h : NxG X room more L b X' v bs) : L.length = 19 ∧ L.all (·.oneCell') = true := by
  rcases h with ⟨_, _, _, rfl, _⟩ | ⟨_, _, rfl, _⟩ | ⟨_, _, _, A, c, _, _, _, rfl, _⟩ <;> exact ⟨rfl, rfl⟩
def NxPost (w0 W : World) (q p : Nat) (X : SS) (room : Int) (more : Nat) (F : Nat → Prop) (e : Ending) (W' : World) : Prop :=
  ∃ L b X' v bs, e = .returned (.tuple #[.agg L.toArray, .bool b]) ∧ NxG X room more L b X' v bs ∧ Own W' W.heap.size 5 v bs ∧ Sm w0 W' q p X' F ∧ (∀ b, F b → W'.heap[b]? = W.heap[b]?) ∧ W.heap.size ≤ W'.heap.size
section
variable {w0 W W1 W' : World} {q p : Nat} {X X' : SS} {F : Nat → Prop}
theorem nxPost_no {room : Int} {more : Nat} {e : Ending} (h : SmPost w0 W q p X F noV e W') (h1 : ¬ nxB X room more) (h2 : ¬ nxR X room) : NxPost w0 W q p X room more F e W' :=
  ⟨_, false, X, .slice none 0 0, [], h.1, .inl ⟨rfl, h1, h2, rfl, rfl⟩, Own.none_ _ _ _, h.2⟩
theorem sm_nb_x (h : Sm w0 W q p X F) (hst : X.st ≤ 3) (hL : X.o.bs.length ≤ 1099511627776) (room : Int) (hr2 : room < 9223372036854775808) (more : Nat) (hm : more < 18446744073709551616) :
    Calls Tryz.prog 44 #[.pointer (some ⟨q, 0, none⟩), .int .i64 room, .int .u64 more] W (NxPost w0 W q p X room more F) := by
  have hnr : ¬ nxR X room := fun k => by have := k.1; omega
  rcases Int.lt_or_le room 20 with hr | hr
  · exact (sm_nb_small h room hr more).mono fun e w' hP => nxPost_no hP (fun k => by have := k.2.1; omega) hnr
  · refine (sm_nb h hL room hr hr2 more hm).mono fun e w' ⟨k1, k2⟩ => ?_
    cases hy : (nextR X.o (moS room) (lmS X more)).yes with
    | false => exact nxPost_no (k1 hy) (fun k => by rw [k.2.2] at hy; cases hy) hnr
    | true =>
      obtain ⟨A, c, he, y1, y2, y3, y4⟩ := k2 hy
      exact ⟨_, true, _, _, _, he, .inr (.inr ⟨rfl, ⟨hst, hr, hy⟩, rfl, A, c, y1, y2, rfl, rfl, rfl⟩), y3, y4⟩
theorem sm_nr_x (h : Sm w0 W q p X F) (hst : X.st = 5) (hL : X.o.bs.length ≤ 1099511627776) (room : Int) (more : Nat) :
    Calls Tryz.prog 45 #[.pointer (some ⟨q, 0, none⟩), .int .i64 room] W (NxPost w0 W q p X room more F) := by
  have hnb : ¬ nxB X room more := fun k => by have := k.1; omega
  cases hd : X.due with
  | false => exact (sm_nr_due h hL hd room).mono fun e w' hP => nxPost_no hP hnb (fun k => by rw [k.2.1] at hd; cases hd)
  | true =>
    rcases Int.lt_or_le room (zsR X) with hr | hr
    · exact (sm_nr_small h hL hd room hr).mono fun e w' hP => nxPost_no hP hnb (fun k => by have := k.2.2; omega)
    · exact (sm_nr h hL hd room hr).mono fun e w' hP => ⟨_, true, _, .slice none 0 0, [], hP.1, .inr (.inl ⟨rfl, ⟨hst, hd, hr⟩, rfl, rfl⟩), Own.none_ _ _ _, hP.2⟩
set_option maxRecDepth 100000 in
set_option maxHeartbeats 4000000 in
theorem sm_next (h : Sm w0 W q p X F) (hL : X.o.bs.length ≤ 1099511627776) (room : Int) (hr2 : room < 9223372036854775808) (more : Nat) (hm : more < 18446744073709551616) :
    Calls Tryz.prog 22 #[.pointer (some ⟨q, 0, none⟩), .int .i64 room, .int .u64 more] W (NxPost w0 W q p X room more F) := by
  obtain ⟨W1, hW1, hA1, hB1, h1⟩ := fz_sm h
  have c2 := h1.c2
  have hNB := fun hst => sm_nb_x h1 hst hL room hr2 more hm
  have hNR := fun hst => sm_nr_x h1 hst hL room more
  have HBX := Lib.hid (fun (W9 : World) (k : Below W.heap.size W W9) => h.same k noV)
  have HFX := Lib.hid (fun (W1 W5 W6 W9 : World) (X6 : SS) (v : Value) (bs : List Int) a b c d e f g k => nb_fin (W1 := W1) (W5 := W5) (W6 := W6) (W9 := W9) (X5 := X) (X6 := X6) (v := v) (bs := bs) h a b c d e f g k)
  have HB1 := Lib.hid hB1
  have HA1 := Lib.hid hA1
  have HAT : Hid (∀ w5 : World, (∀ b, (b = W.heap.size ∨ F b) → w5.heap[b]? = W1.heap[b]?) → At w5 W.heap.size 51 (frL (FN.zero 0) .nil .nil)) := Lib.hid (fun w5 hk => (hk _ (.inl rfl)).trans hA1)
  have hst := h.ok.st
  clear h h1 hB1 hA1 hL hr2 hm
  rcases hst with hst | hst | hst | hst | hst | hst
  · have HST := Lib.hid hst
    have HC := Lib.hid (hNB (by omega))
    rw [hst] at c2
    clear hNB hNR hst
    go_enter Tryz.func22, Tryz.ntmps22
    go_wp2_with (first | (go_at_call 44; (with_reducible refine HC.out.mono ?_); rintro e w5 ⟨L, b, X', v, bs, rfl, x1, x2, x3, x4, x5⟩; have HG := Lib.hid x1; have HL1 := Lib.hid x1.len.1; have HL2 := Lib.hid x1.len.2; have H5 := Lib.hid (And.intro x2 (And.intro x3 (And.intro x4 x5))); have HA5 := Lib.hid (HAT.out w5 x4); clear x1 x2 x3 x4 x5) | ((with_reducible refine at_st (x := .tmp 6) ?_); refine st_at _ _ L (by rfl) (by rfl) HA5.out (by rfl) HL1.out HL2.out ?_; intro w9 hA9 hk9; skip) | fail)
    refine bodyPost_ret (results_cell_tmp 6 7 51 (by rfl) _ 51 _ _ _ (by rfl) (by rfl) hA9 Tryz.underlying51 rfl (by rw [HL1.out]; exact fr_info)) rfl ?_
    obtain ⟨x2, x3, x4, x5⟩ := H5.out
    exact ⟨L, b, X', v, bs, rfl, HG.out, HFX.out _ _ _ _ _ _ _ HB1.out HA1.out.lt x4 x5 x2 x3 (Kept.refl _ _) hk9⟩
  · have HST := Lib.hid hst
    have HC := Lib.hid (hNB (by omega))
    rw [hst] at c2
    clear hNB hNR hst
    go_enter Tryz.func22, Tryz.ntmps22
    go_wp2_with (first | (go_at_call 44; (with_reducible refine HC.out.mono ?_); rintro e w5 ⟨L, b, X', v, bs, rfl, x1, x2, x3, x4, x5⟩; have HG := Lib.hid x1; have HL1 := Lib.hid x1.len.1; have HL2 := Lib.hid x1.len.2; have H5 := Lib.hid (And.intro x2 (And.intro x3 (And.intro x4 x5))); have HA5 := Lib.hid (HAT.out w5 x4); clear x1 x2 x3 x4 x5) | ((with_reducible refine at_st (x := .tmp 6) ?_); refine st_at _ _ L (by rfl) (by rfl) HA5.out (by rfl) HL1.out HL2.out ?_; intro w9 hA9 hk9; skip) | fail)
    refine bodyPost_ret (results_cell_tmp 6 7 51 (by rfl) _ 51 _ _ _ (by rfl) (by rfl) hA9 Tryz.underlying51 rfl (by rw [HL1.out]; exact fr_info)) rfl ?_
    obtain ⟨x2, x3, x4, x5⟩ := H5.out
    exact ⟨L, b, X', v, bs, rfl, HG.out, HFX.out _ _ _ _ _ _ _ HB1.out HA1.out.lt x4 x5 x2 x3 (Kept.refl _ _) hk9⟩
  · have HST := Lib.hid hst
    have HC := Lib.hid (hNB (by omega))
    rw [hst] at c2
    clear hNB hNR hst
    go_enter Tryz.func22, Tryz.ntmps22
    go_wp2_with (first | (go_at_call 44; (with_reducible refine HC.out.mono ?_); rintro e w5 ⟨L, b, X', v, bs, rfl, x1, x2, x3, x4, x5⟩; have HG := Lib.hid x1; have HL1 := Lib.hid x1.len.1; have HL2 := Lib.hid x1.len.2; have H5 := Lib.hid (And.intro x2 (And.intro x3 (And.intro x4 x5))); have HA5 := Lib.hid (HAT.out w5 x4); clear x1 x2 x3 x4 x5) | ((with_reducible refine at_st (x := .tmp 6) ?_); refine st_at _ _ L (by rfl) (by rfl) HA5.out (by rfl) HL1.out HL2.out ?_; intro w9 hA9 hk9; skip) | fail)
    refine bodyPost_ret (results_cell_tmp 6 7 51 (by rfl) _ 51 _ _ _ (by rfl) (by rfl) hA9 Tryz.underlying51 rfl (by rw [HL1.out]; exact fr_info)) rfl ?_
    obtain ⟨x2, x3, x4, x5⟩ := H5.out
    exact ⟨L, b, X', v, bs, rfl, HG.out, HFX.out _ _ _ _ _ _ _ HB1.out HA1.out.lt x4 x5 x2 x3 (Kept.refl _ _) hk9⟩
  · have HST := Lib.hid hst
    rw [hst] at c2
    clear hNB hNR hst
    go_enter Tryz.func22, Tryz.ntmps22
    go_wp2_with (first | ((with_reducible refine at_st (x := .tmp 6) ?_); refine st_at _ _ (frL (FN.zero 0) .nil .nil) (by rfl) (by rfl) HA1.out (by rfl) (by rfl) (by rfl) ?_; intro w9 hA9 hk9; skip) | fail)
    refine bodyPost_ret (results_cell_tmp 6 7 51 (by rfl) _ 51 _ _ _ (by rfl) (by rfl) hA9 Tryz.underlying51 rfl fr_info) rfl ?_
    exact nxPost_no (HBX.out _ (hk9.below HB1.out HB1.out.size (fun j hj => by omega))) (fun k => by have := k.1; have := HST.out; omega) (fun k => by have := k.1; have := HST.out; omega)
  · have HST := Lib.hid hst
    have HC := Lib.hid (hNR hst)
    rw [hst] at c2
    clear hNB hNR hst
    go_enter Tryz.func22, Tryz.ntmps22
    go_wp2_with (first | (go_at_call 45; (with_reducible refine HC.out.mono ?_); rintro e w5 ⟨L, b, X', v, bs, rfl, x1, x2, x3, x4, x5⟩; have HG := Lib.hid x1; have HL1 := Lib.hid x1.len.1; have HL2 := Lib.hid x1.len.2; have H5 := Lib.hid (And.intro x2 (And.intro x3 (And.intro x4 x5))); have HA5 := Lib.hid (HAT.out w5 x4); clear x1 x2 x3 x4 x5) | ((with_reducible refine at_st (x := .tmp 6) ?_); refine st_at _ _ L (by rfl) (by rfl) HA5.out (by rfl) HL1.out HL2.out ?_; intro w9 hA9 hk9; skip) | fail)
    refine bodyPost_ret (results_cell_tmp 6 7 51 (by rfl) _ 51 _ _ _ (by rfl) (by rfl) hA9 Tryz.underlying51 rfl (by rw [HL1.out]; exact fr_info)) rfl ?_
    obtain ⟨x2, x3, x4, x5⟩ := H5.out
    exact ⟨L, b, X', v, bs, rfl, HG.out, HFX.out _ _ _ _ _ _ _ HB1.out HA1.out.lt x4 x5 x2 x3 (Kept.refl _ _) hk9⟩
  · have HST := Lib.hid hst
    rw [hst] at c2
    clear hNB hNR hst
    go_enter Tryz.func22, Tryz.ntmps22
    go_wp2_with (first | ((with_reducible refine at_st (x := .tmp 6) ?_); refine st_at _ _ (frL (FN.zero 0) .nil .nil) (by rfl) (by rfl) HA1.out (by rfl) (by rfl) (by rfl) ?_; intro w9 hA9 hk9; skip) | fail)
    refine bodyPost_ret (results_cell_tmp 6 7 51 (by rfl) _ 51 _ _ _ (by rfl) (by rfl) hA9 Tryz.underlying51 rfl fr_info) rfl ?_
    exact nxPost_no (HBX.out _ (hk9.below HB1.out HB1.out.size (fun j hj => by omega))) (fun k => by have := k.1; have := HST.out; omega) (fun k => by have := k.1; have := HST.out; omega)
end
end
section
set_option linter.unusedVariables false
set_option linter.unusedSimpArgs false
structure En (S : OS) (D : List Int) (b : Nat) : Prop where
  bs : S.bs = D
  ov : S.ov = true
  bg : b ≤ S.gn
  g : S.gn = b ∨ S.gn = min (b + 20) D.length
  gl : S.gn ≤ D.length
  ak : ∀ j, S.ak j = decide (j < b)
  ag : ∀ j, S.ag j = (decide (b ≤ j) && decide (j < S.gn))
  ea : S.ea = false
  el : S.en = true → S.el = true
/-- The frame that comes next. -/
def enR (D : List Int) (b : Nat) : NxO := ⟨b, min (b + 20) D.length - b, decide (D.length ≤ b + 20), true⟩
theorem En.endO {S : OS} {D : List Int} {b : Nat} (h : En S D b) : endO S = true := by
  unfold Proofs.YtbejpafephofaaaGreat.endO
  rw [h.ov, h.ea]
  cases he : S.en with
  | false => rfl
  | true => rw [h.el he]; rfl
theorem En.next {S : OS} {D : List Int} {b : Nat} (h : En S D b) {limit : Nat} (hl : D.length ≤ limit) : nextR S 20 limit = enR D b := by
  have hE := h.endO
  have hbg := h.bg
  have hgl := h.gl
  have hg := h.g
  have hbs : S.bs.length = D.length := by rw [h.bs]
  have hfirst : firstO S = b := by
    refine runF_is hbg (fun j hj => ?_) (fun hlt => ?_)
    · rw [Nat.zero_add, h.ag]
      have : ¬ b ≤ j := by omega
      simp [this]
    · rw [Nat.zero_add, h.ag]
      simp [hlt]
  have hfrom : fromO S 20 limit = (b, min (b + 20) D.length) := by
    unfold fromO
    rw [hfirst]
    by_cases hlt : b < S.gn
    · rw [if_pos hlt]
      have hr : runF S.ag b (min 20 (S.gn - b)) = S.gn - b := by
        refine runF_is (by omega) (fun j hj => ?_) (fun hx => by omega)
        rw [h.ag]
        have h1 : b ≤ b + j := by omega
        have h2 : b + j < S.gn := by omega
        simp [h2]
      rw [hr]
      congr 1
      omega
    · rw [if_neg hlt, hbs]
      have : S.gn = b := by omega
      rw [this]
      congr 1
      omega
  unfold nextR enR
  rw [hfrom, hfirst, hbs]
  by_cases he : b = min (b + 20) D.length
  · have hgD : b = S.gn ∧ S.gn = D.length := by omega
    have hDb : D.length = b := by omega
    simp only
    rw [if_pos he, if_pos ⟨hgD.1, hgD.2, hE⟩, hDb]
    simp
  · simp only
    rw [if_neg he, hE, Bool.and_true]
    congr 1
    simp only [decide_eq_decide]
    omega
theorem En.n1 (D : List Int) (b : Nat) (hb : b ≤ D.length) : (enR D b).off + (enR D b).n = min (b + 20) D.length := by
  show b + (min (b + 20) D.length - b) = _
  omega
section
variable {S : OS} {D : List Int} {b limit : Nat}
theorem En.bD (h : En S D b) : b ≤ D.length := Nat.le_trans h.bg h.gl
theorem En.gn' (h : En S D b) (hl : D.length ≤ limit) : (nextO S 20 limit).gn = min (b + 20) D.length := by
  have h1 := h.bD
  have h2 := h.bg
  have h3 := h.gl
  have h4 := h.g
  unfold nextO
  rw [h.next hl]
  show max S.gn (if (enR D b).n = 0 then 0 else b + (enR D b).n) = _
  show max S.gn (if min (b + 20) D.length - b = 0 then 0 else b + (min (b + 20) D.length - b)) = _
  split <;> omega
theorem En.inT' (h : En S D b) (hl : D.length ≤ limit) (j : Nat) : inT (nextO S 20 limit) b (enR D b).n j = (decide (b ≤ j) && decide (j < min (b + 20) D.length)) := by
  have h1 := h.bD
  unfold inT
  rw [h.gn' hl, show b + (enR D b).n = min (b + 20) D.length from En.n1 D b h1, Bool.and_assoc, Bool.and_self]
theorem En.ag' (h : En S D b) (hl : D.length ≤ limit) (j : Nat) : (nextO S 20 limit).ag j = false := by
  have h1 := h.bD
  unfold nextO
  rw [h.next hl]
  show (S.ag j && !(decide (b ≤ j) && decide (j < b + (enR D b).n))) = false
  rw [show b + (enR D b).n = min (b + 20) D.length from En.n1 D b h1, h.ag]
  by_cases hj : b ≤ j
  · by_cases hj2 : j < S.gn
    · have h4 := h.g
      have : j < min (b + 20) D.length := by omega
      simp [this]
      omega
    · simp [hj2]
  · simp [hj]
theorem En.lost (h : En S D b) (hl : D.length ≤ limit) : En (lostO (nextO S 20 limit) b (enR D b).n (enR D b).fin) D b := by
  have h1 := h.bD
  have hg := h.gn' hl
  refine ⟨h.bs, h.ov, ?_, ?_, ?_, h.ak, fun j => ?_, h.ea, fun he => ?_⟩
  · show b ≤ (nextO S 20 limit).gn
    rw [hg]
    omega
  · right
    exact hg
  · show (nextO S 20 limit).gn ≤ D.length
    rw [hg]
    omega
  · show ((nextO S 20 limit).ag j || (inT _ _ _ j && !S.ak j)) = (decide (b ≤ j) && decide (j < (nextO S 20 limit).gn))
    rw [h.ag' hl, h.inT' hl, h.ak, hg, Bool.false_or]
    by_cases hj : b ≤ j
    · have : ¬ j < b := by omega
      simp [this]
    · simp [hj]
  · have he' : (S.en || (nextR S 20 limit).fin) = true := he
    rw [h.next hl] at he'
    show (((S.el && !(nextR S 20 limit).fin)) || ((enR D b).fin && (S.en || (nextR S 20 limit).fin))) = true
    rw [h.next hl]
    cases hf : (enR D b).fin with
    | true => simp
    | false =>
      rw [hf, Bool.or_false] at he'
      rw [h.el he']
      rfl
/-- What came that is not the end. -/
theorem En.acked (h : En S D b) (hl : D.length ≤ limit) (hb : b + 20 < D.length) : En (ackO (nextO S 20 limit) b (enR D b).n (enR D b).fin) D (b + 20) := by
  have h1 := h.bD
  have hg := h.gn' hl
  have hf : (enR D b).fin = false := by
    show decide _ = false
    simp
    omega
  have hmin : min (b + 20) D.length = b + 20 := by omega
  refine ⟨h.bs, h.ov, ?_, ?_, ?_, fun j => ?_, fun j => ?_, ?_, fun he => ?_⟩
  · show b + 20 ≤ (nextO S 20 limit).gn
    rw [hg]
    omega
  · left
    show (nextO S 20 limit).gn = b + 20
    rw [hg]
    exact hmin
  · show (nextO S 20 limit).gn ≤ D.length
    rw [hg]
    omega
  · show (S.ak j || inT _ _ _ j) = decide (j < b + 20)
    rw [h.ak, h.inT' hl, hmin]
    by_cases hj : j < b
    · have : j < b + 20 := by omega
      simp [hj, this]
    · have : b ≤ j := by omega
      simp [hj, this]
  · show ((nextO S 20 limit).ag j && !inT _ _ _ j) = (decide (b + 20 ≤ j) && decide (j < (nextO S 20 limit).gn))
    rw [h.ag' hl, hg, hmin, Bool.false_and]
    by_cases hj : b + 20 ≤ j
    · have : ¬ j < b + 20 := by omega
      simp [this]
    · simp [hj]
  · show (S.ea || ((enR D b).fin && _)) = false
    rw [h.ea, hf]
    rfl
  · have he' : (S.en || (nextR S 20 limit).fin) = true := he
    rw [h.next hl, hf, Bool.or_false] at he'
    show ((S.el && !(nextR S 20 limit).fin)) = true
    rw [h.next hl, hf, h.el he']
    rfl
end
end
section
set_option linter.unusedVariables false
set_option linter.unusedSimpArgs false
open Go.RowKit
def kx16 : SS := ⟨4, 0, 1, true, 0, false, finO os0⟩
set_option maxHeartbeats 8000000 in
set_option maxRecDepth 100000 in
theorem known16_any (w : World) : Calls Tryz.prog 7 #[] w fun e w' => e = .returned (.bool true) ∧ Below w.heap.size w w' := by
  have HN : Hid (Calls Tryz.prog 4 #[.int .u64 4] w fun e w' => ∃ q p, e = .returned (.pointer (some ⟨q, 0, none⟩)) ∧ Sm w w' q p (ss0 4) (fun _ => False)) := Lib.hid (sm_new 4 (by decide) w)
  have HST : Hid (∀ W q p, Sm w W q p (ss0 4) (fun _ => False) → Calls Tryz.prog 26 #[.pointer (some ⟨q, 0, none⟩)] W fun e w' => e = .returned (.int .i64 1) ∧ w' = W) := Lib.hid (fun W q p h => sm_state h)
  have HFI : Hid (∀ W q p, Sm w W q p (ss0 4) (fun _ => False) → Calls Tryz.prog 12 #[.pointer (some ⟨q, 0, none⟩)] W fun e w' => e = .returned (.int .i64 0) ∧ Sm w w' q p kx16 (fun _ => False)) := Lib.hid (fun W q p h => (sm_finish h rfl).mono fun e w' hP => ⟨hP.1, hP.2.1⟩)
  have HWR : Hid (∀ W q p A n c, Sm w W q p kx16 (fun _ => False) → Calls Tryz.prog 10 #[.pointer (some ⟨q, 0, none⟩), .slice A n c] W fun e w' => e = .returned (.tuple #[.int .i64 0, .int .i64 24]) ∧ w' = W) := Lib.hid (fun W q p A n c h => sm_write_closed h rfl A n c)
  have HNX : Hid (∀ W q p, Sm w W q p kx16 (fun _ => False) → Calls Tryz.prog 22 #[.pointer (some ⟨q, 0, none⟩), .int .i64 3, .int .u64 9] W fun e w' => ∃ L : List Value, e = .returned (.tuple #[.agg L.toArray, .bool false]) ∧ L.length = 19 ∧ L.all (·.oneCell') = true ∧ Sm w w' q p kx16 (fun _ => False)) := Lib.hid (fun W q p h => by
    refine (sm_next h (by decide) 3 (by omega) 9 (by omega)).mono fun e w' ⟨L, b, X', v, bs, he, hG, _, hS, _⟩ => ?_
    have hl := hG.len
    rcases hG with ⟨rfl, _, _, _, rfl⟩ | ⟨_, k, _⟩ | ⟨_, k, _⟩
    · exact ⟨L, he, hl.1, hl.2, hS⟩
    · have := k.1
      exact absurd this (by decide)
    · have := k.2.1
      omega)
  have HSE : Hid (∀ W q p (o : Obj), Sm w W q p kx16 (fun _ => False) → Calls Tryz.prog 27 #[.pointer (some ⟨q, 0, none⟩)] (W.alloc o) fun e w' => e = .returned (.int .u64 0) ∧ w' = W.alloc o) := Lib.hid (fun W q p o h => sm_sent (h.below ((Below.refl _ _).alloc (Nat.le_refl _) _)))
  have HBL : Hid (∀ W q p (o : Obj), Sm w W q p kx16 (fun _ => False) → Below w.heap.size w (W.alloc o)) := Lib.hid (fun W q p o h => h.bl.alloc h.bl.size _)
  have kc := fun (w : World) (C : Array Value) (n c : Nat) => Lib.run_convert_bytes_const (P := Tryz.prog) w 22 5 C n c Tryz.underlying22 Tryz.underlying5
  go_enter Tryz.func7, Tryz.ntmps7
  go_wp2_with (first
    | (go_at_call 4; (with_reducible refine HN.out.mono ?_); rintro e w1 ⟨q, p, rfl, hS1⟩; have H1 := Lib.hid (HST.out w1 q p hS1); have H1b := Lib.hid (HFI.out w1 q p hS1); clear hS1)
    | (go_at_call 26; (with_reducible refine H1.out.mono ?_); rintro e w2 ⟨rfl, hw2⟩; rw [hw2]; clear hw2)
    | (go_at_call 12; (with_reducible refine H1b.out.mono ?_); rintro e w3 ⟨rfl, hS3⟩; have HS3 := Lib.hid (fun (o : Obj) A n c => HWR.out (w3.alloc o) q p A n c (hS3.below ((Below.refl _ _).alloc (Nat.le_refl _) _))); have HS3b := Lib.hid (fun (o : Obj) => HNX.out (w3.alloc o) q p (hS3.below ((Below.refl _ _).alloc (Nat.le_refl _) _))); clear hS3)
    | (go_at_call 10; (with_reducible refine (HS3.out _ _ _ _).mono ?_); rintro e w4 ⟨rfl, hw4⟩; rw [hw4]; clear hw4)
    | (go_at_call 22; (with_reducible refine (HS3b.out _).mono ?_); rintro e w5 ⟨L, rfl, hl1, hl2, hS5⟩; have HL1 := Lib.hid hl1; have HL2 := Lib.hid hl2; have HS5 := Lib.hid (fun o => HSE.out w5 q p o hS5); have HB5 := Lib.hid (fun o => HBL.out w5 q p o hS5); clear hl1 hl2 hS5)
    | (go_at_call 27; (with_reducible refine (HS5.out _).mono ?_); rintro e w6 ⟨rfl, hw6⟩; rw [hw6]; clear hw6)
    | ((with_reducible refine at_st (x := .tmp 4) ?_); refine st_top _ _ L (by rfl) _ (by rfl) (by simp) (by rfl) (by rfl) HL1.out HL2.out ?_)
    | fail)
  go_ret
  exact ⟨by rfl, HB5.out _⟩
theorem zsR_32 (X : SS) : zsR X ≤ 32 := by
  unfold zsR sizeF
  split
  · have h1 := putS_le (wkS (m4 X.id X.code X.o.gn))
    have h2 := putL_len [((X.id : Nat) : Int), ((X.code : Nat) : Int), ((X.o.gn : Nat) : Int)]
    simp only [List.length_cons, List.length_nil] at h2
    unfold oneS
    rw [List.length_append, show bodyS (m4 X.id X.code X.o.gn) [] [] = putL [((X.id : Nat) : Int), ((X.code : Nat) : Int), ((X.o.gn : Nat) : Int)] from rfl]
    omega
  · omega
section
variable {w W : World} {q p : Nat} {X : SS} {D : List Int} {i : Nat} {reset : Bool}
end
end
section
set_option linter.unusedVariables false
set_option linter.unusedSimpArgs false
open Go.RowKit
def smL (xs : List Int) : Bool := xs.all fun x => decide (x ≤ 4611686018427387903)
end
section
set_option linter.unusedVariables false
open Go.RowKit
theorem rsize_any (x : Int) (w : World) : Calls Tryz.prog 96 #[.int .u64 x] w fun e w' => e = .returned (.int .i64 (sizeS x)) ∧ w = w' := by
  have hfin : (sizeS x : Int) = if x < 64 then 1 else if x < 16384 then 2 else if x < 1073741824 then 4 else if x ≤ 4611686018427387903 then 8 else 0 := by
    unfold sizeS; (repeat' split) <;> rfl
  have H := Lib.hid hfin; clear hfin
  go_enter Tryz.func96, Tryz.ntmps96
  go_wp2
  all_goals
    go_ret
    exact ⟨ret_int (by rw [H.out]; (repeat' split) <;> omega), rfl⟩
/-- What the document's own table adds to the first byte. -/
def tblS (s : Nat) : Int := if s = 2 then 64 else if s = 4 then 128 else if s = 8 then 192 else 0
theorem tbl_first (x : Int) (h0 : 0 ≤ x) (h : x ≤ 4611686018427387903) (y : Int) (hy : y = IntKind.u8.wrap (x / 2 ^ (8 * (sizeS x - 1)))) :
    bits BinOp.or IntKind.u8 y (tblS (sizeS x)) = byteS (sizeS x) (putM x) 0 ∧ 0 ≤ y ∧ y < 64 := by
  subst hy
  have hf := put_first x h0 h
  rw [IntKind.wrap_u8]
  unfold tblS
  rcases size_cases x h0 h with ⟨a, b, c, d⟩ | ⟨a, b, c, d⟩ | ⟨a, b, c, d⟩ | ⟨a, b, c, d⟩ <;> rw [a] at hf ⊢ <;> rw [c] at hf ⊢ <;> rw [hf.1]
  · refine ⟨?_, by omega, hf.2⟩
    rw [if_neg (by omega), if_neg (by omega), if_neg (by omega), u8_or _ _ (by omega) (by omega) (by omega) (by omega)]; simp; omega
  · refine ⟨?_, by omega, hf.2⟩
    rw [if_pos (by omega), u8_or _ _ (by omega) (by omega) (by omega) (by omega), Nat.or_comm, nat_join 6 _ _ (by decide) (by omega)]; simp; omega
  · refine ⟨?_, by omega, hf.2⟩
    rw [if_neg (by omega), if_pos (by omega), u8_or _ _ (by omega) (by omega) (by omega) (by omega), Nat.or_comm, nat_join 6 _ _ (by decide) (by omega)]; simp; omega
  · refine ⟨?_, by omega, hf.2⟩
    rw [if_neg (by omega), if_neg (by omega), if_pos (by omega), u8_or _ _ (by omega) (by omega) (by omega) (by omega), Nat.or_comm, nat_join 6 _ _ (by decide) (by omega)]; simp; omega
set_option maxRecDepth 100000 in
set_option maxHeartbeats 2000000 in
theorem rput_any (A : Option Addr) (n c : Nat) (bs : List Int) (x : Int) (w : World) (hr : Rd w w.heap.size A n bs) (hc : n ≤ 140737488355000) (h0 : 0 ≤ x) (h1 : x ≤ 4611686018427387903) :
    Calls Tryz.prog 77 #[.slice A n c, .int .u64 x] w fun e w' => ∃ v, e = .returned v ∧
      Own w' w.heap.size 5 v (bs ++ putS x) ∧ Below w.heap.size w w' := by
  obtain ⟨i0, hi, hz0, hz1, hz2⟩ := info_parts u8_info
  have hb0 := Below.refl w.heap.size w
  have hps : putS x = beS (sizeS x) (putM x) := rfl
  have hs4 : sizeS x = 1 ∨ sizeS x = 2 ∨ sizeS x = 4 ∨ sizeS x = 8 := by
    rcases size_cases x h0 h1 with ⟨a, _⟩ | ⟨a, _⟩ | ⟨a, _⟩ | ⟨a, _⟩ <;> simp [a]
  have hs8 := size_le x
  have hs1 := size_pos x h1
  have htf := tbl_first x h0 h1 _ rfl
  have hlat := put_later x h0 h1
  obtain ⟨s, hs⟩ : ∃ s, sizeS x = s := ⟨_, rfl⟩
  obtain ⟨M, hMM⟩ : ∃ M, putM x = M := ⟨_, rfl⟩
  have S := Lib.hid hs
  rw [hs] at hps hs8 hs1 htf hlat hs4
  rw [hMM] at hps htf hlat
  clear hs hMM
  have PS := Lib.hid hps
  have LAT := Lib.hid hlat
  have TF := Lib.hid htf
  have S4 := Lib.hid hs4
  have HL := Lib.hid hr.1
  have hby := hr.2.1
  clear hps hlat htf hs4
  go_enter Tryz.func77, Tryz.ntmps77
  go_wp2_with (first
    | (go_at_call 96; refine (rsize_any _ _).mono ?_; rintro e w' ⟨rfl, rfl⟩; rw [S.out])
    | (at_builtin; refine wpList_append_rd rfl (.tmp 11) (.tmp 12) 22 rfl w.heap.size 5 i0 Tryz.underlying22 hi hz0 hz1 hz2 _ [] rfl (Own.of_block (n := 0) (cap := 0) Byt.nil rfl (heap_alloc_new w _) (Nat.le_refl _) (Nat.le_refl _) (Nat.zero_le _) rfl rfl) _ A n c bs rfl (hr.alloc (Nat.le_refl _) _) (by simp; omega) w (hb0.alloc (Nat.le_refl _) _) (by simp) ?_; intro v2 w2 hown2 hb2 hgr2))
  clear hr hb0 hgr2
  go_loopw [6, 7] (fun v i wr => ∃ k : Nat, k ≤ s ∧ i = .int .i64 k ∧ Own wr w.heap.size 5 v (bs ++ (beS s M).take k) ∧ Below w.heap.size w wr) (fun _ i _ => s - (intOf i).toNat)
  case atStart => exact ⟨0, Nat.zero_le _, rfl, by simpa using hown2, hb2⟩
  case round =>
    obtain ⟨k, hk, rfl, hown, hbr⟩ := hrel
    clear hown2 hb2
    have hbs := hbr.size
    by_cases hlt : k < s
    · have htk := beS_take s M k hlt
      have hll : ((beS s M).take k).length ≤ 8 := by have := List.length_take_le k (beS s M); omega
      have TK := Lib.hid htk; clear htk
      by_cases hk0 : k = 0
      · subst hk0
        rcases S4.out with rfl | rfl | rfl | rfl
        all_goals
          go_wp2_with (at_builtin; go_loud (refine wpList_append_rd rfl (.tmp 36) (.tmp 38) 22 rfl w.heap.size 5 i0 Tryz.underlying22 hi hz0 hz1 hz2 _ _ rfl ((hown.alloc _).alloc _) _ _ 1 1 [_] rfl (Rd.byte _ 5 _ (by simp) _ (u8_bits_bd _ _ _)) (by rw [List.length_append, HL.out]; omega) w ((hbr.alloc hbs _).alloc (by simp; omega) _) (by simp; omega) ?_); intro v' w3 hown3 hb3 hgr3)
          go_roundw
          case rel => exact ⟨1, by omega, by first | rfl | omega, hown3.cast (by rw [show List.take 1 (beS _ M) = List.take (0 + 1) (beS _ M) from rfl, TK.out, ← TF.out.1, IntKind.wrap_u8]; first | (simp [tblS]; done) | (simp [tblS]; rw [show x / 72057594037927936 % 256 = x / 72057594037927936 by omega]))⟩
          case measure => simp [intOf]
      · have hkz : ((k : Int) == 0) = false := by simp; omega
        have hbyte : IntKind.u8.wrap (x / 2 ^ (8 * (s - 1 - k))) = byteS s M k := by
          rw [LAT.out k (by omega) hlt, IntKind.wrap_u8]
        have BY := Lib.hid hbyte; clear hbyte
        go_wp2_with (at_builtin; go_loud (refine wpList_append_rd rfl (.tmp 36) (.tmp 38) 22 rfl w.heap.size 5 i0 Tryz.underlying22 hi hz0 hz1 hz2 _ _ rfl (hown.alloc _) _ _ 1 1 [_] rfl (Rd.byte _ 5 _ (by simp) _ (by first | exact u8_wrap_bd _ | omega)) (by rw [List.length_append, HL.out]; omega) w (hbr.alloc hbs _) (by simp; omega) ?_); intro v' w3 hown3 hb3 hgr3)
        go_roundw
        case rel => exact ⟨k + 1, by omega, by go_num, hown3.cast (by rw [TK.out, ← BY.out, IntKind.wrap_u8]; simp), hb3⟩
        case measure => simp [intOf]; omega
    · obtain rfl : k = s := by omega
      have hfin : (beS k M).take k = beS k M := List.take_of_length_le (by rw [beS_len]; omega)
      rw [hfin] at hown
      clear hfin
      go_wp2
      go_ret
      exact ⟨_, rfl, by rw [PS.out]; exact hown, hbr⟩
end
end Go.Proofs.YtbejpafephofaaaGreat
