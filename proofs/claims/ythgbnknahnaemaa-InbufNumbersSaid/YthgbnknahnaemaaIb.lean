/-
  inbuf: what laying, cutting and reading do to the program's set and row, and to the document's; mathematics alone.
-/
import Derived.Test.YthgbnknahnaemaaIa
namespace Go.Proofs.Ythgbnknahnaemaa
set_option linter.unusedVariables false
set_option linter.unusedSimpArgs false
open Go.RowKit
/-- The row is long enough for so many. -/
def padW (W : List Int) (n : Nat) : List Int := W ++ List.replicate (n - W.length) 0
theorem padW_len (W : List Int) (n : Nat) : (padW W n).length = max W.length n := by simp [padW]; omega
theorem padW_id {W : List Int} {n : Nat} (h : n ≤ W.length) : padW W n = W := by
  unfold padW
  rw [show n - W.length = 0 by omega]
  simp
theorem padW_get {W : List Int} {n i : Nat} {x : Int} (h : W[i]? = some x) : (padW W n)[i]? = some x := by
  unfold padW
  have := (List.getElem?_eq_some_iff.1 h).1
  rw [List.getElem?_append_left this]
  exact h
theorem padW_byt {W : List Int} (h : Byt W) (n : Nat) : Byt (padW W n) := h.app fun y hy => by rw [List.eq_of_mem_replicate hy]; omega
theorem splice_get_out {α : Type} (L cs : List α) (o i : Nat) (h : i < o ∨ o + cs.length ≤ i) (ho : o + cs.length ≤ L.length) : (splice L o cs)[i]? = L[i]? := by
  unfold splice
  rcases h with h | h
  · rw [List.getElem?_append_left (by simp; omega), List.getElem?_take_of_lt h]
  · rw [List.getElem?_append_right (by simp; omega), List.getElem?_append_right (by simp; omega), List.getElem?_drop]
    congr 1
    simp; omega
theorem splice_get_in {α : Type} (L cs : List α) (o i : Nat) (h : o ≤ i) (h2 : i < o + cs.length) (ho : o + cs.length ≤ L.length) : (splice L o cs)[i]? = cs[i - o]? := by
  unfold splice
  rw [List.getElem?_append_right (by simp; omega), List.getElem?_append_left (by simp; omega)]
  congr 1
  simp; omega
theorem splice_byt {W bs : List Int} (h : Byt W) (hb : Byt bs) (o : Nat) : Byt (splice W o bs) := (h.take o).app (hb.app (h.drop _))
theorem splice_map {α β : Type} (f : α → β) (L cs : List α) (o : Nat) : splice (L.map f) o (cs.map f) = (splice L o cs).map f := by simp [splice]
theorem none_has {rd : Nat} {l : RL} {W : List Int} {g : Nat → Option Int} (h : Pm rd l W g) {n : Nat} (hn : rd ≤ n) (h' : g n = none) : hasL l n = false := by rw [h.has n hn, h']; rfl
theorem has_rng {rd : Nat} {l : RL} {W : List Int} {g : Nat → Option Int} (h : Pm rd l W g) {k : Int} (hk : hasL l k = true) : (rd : Int) ≤ k ∧ k < rd + W.length := by
  obtain ⟨r, hr, h1, h2⟩ := has_true.1 hk
  have := h.rng r hr
  omega
theorem mem_has {l : RL} (hg : Gd l) {r : Int × Int} (hr : r ∈ l) : hasL l r.1 = true ∧ hasL l (r.2 - 1) = true := by
  have := hg.1 r hr
  unfold OkR at this
  exact ⟨has_true.2 ⟨r, hr, by omega, by omega⟩, has_true.2 ⟨r, hr, by omega, by omega⟩⟩
theorem pm_lay {rd off : Nat} {l : RL} {W bs : List Int} {g : Nat → Option Int} (h : Pm rd l W g) (h1 : rd ≤ off) (h2 : off + bs.length ≤ rd + 2048) (hm : rd ≤ 1099511628288)
    (hno : ∀ n, off ≤ n → n < off + bs.length → g n = none) :
    Pm rd (addV l off (off + bs.length : Nat) 2048) (splice (padW W (off + bs.length - rd)) (off - rd) bs) (addG g off bs) := by
  have hgd := addV_gd h.gd off (off + bs.length : Nat) 2048 (by omega)
  have hlen := addGo_len l ((off : Int), ((off + bs.length : Nat) : Int)) false
  have hl := h.len
  have hhas : ∀ k : Int, hasL (addV l off (off + bs.length : Nat) 2048) k = (hasL l k || (decide ((off : Int) ≤ k) && decide (k < (off + bs.length : Nat)))) := fun k => has_addV h.gd (by omega) (by omega)
  have hpl := padW_len W (off + bs.length - rd)
  have hfit : off - rd + bs.length ≤ (padW W (off + bs.length - rd)).length := by rw [hpl]; omega
  have hsl : (splice (padW W (off + bs.length - rd)) (off - rd) bs).length = max W.length (off + bs.length - rd) := by rw [length_splice _ _ _ hfit, hpl]
  refine ⟨hgd, fun r hr => ?_, ?_, fun n hn => ?_, fun n x hn hx => ?_⟩
  · obtain ⟨k1, k2⟩ := mem_has hgd hr
    rw [hhas] at k1 k2
    rw [hsl]
    rw [Bool.or_eq_true, Bool.and_eq_true, decide_eq_true_eq, decide_eq_true_eq] at k1 k2
    constructor
    · rcases k1 with k1 | k1
      · exact (has_rng h k1).1
      · omega
    · rcases k2 with k2 | k2
      · have := (has_rng h k2).2
        omega
      · omega
  · rw [hsl]
    have := h.wl
    omega
  · rw [hhas, addG_isSome, h.has n hn]
    congr 1
    have e1 : ((off : Int) ≤ (n : Int)) = (off ≤ n) := by simp
    have e2 : ((n : Int) < ((off + bs.length : Nat) : Int)) = (n < off + bs.length) := by simp only [eq_iff_iff]; omega
    simp only [e1, e2]
  · by_cases hc : off ≤ n ∧ n < off + bs.length
    · rw [addG_none (hno n hc.1 hc.2)] at hx
      rw [splice_get_in _ _ _ _ (by omega) (by omega) hfit]
      unfold pieceB at hx
      rw [if_pos hc.1] at hx
      rw [← hx]
      congr 1
      omega
    · have hgx : g n = some x := by
        cases hg : g n with
        | some y =>
          rw [addG_some (by rw [hg]; rfl), hg] at hx
          exact hx
        | none =>
          rw [addG_none hg, pieceB_out (by omega)] at hx
          cases hx
      rw [splice_get_out _ _ _ _ (by omega) hfit]
      exact padW_get (h.byt n x hn hgx)
theorem pm_ready_le {rd k : Nat} {l : RL} {W : List Int} {g : Nat → Option Int} (h : Pm rd l W g) (hk : IsR g rd k) : k ≤ W.length := by
  rcases Nat.eq_zero_or_pos k with rfl | h0
  · omega
  · have h1 := hk.1 (k - 1) (by omega)
    rw [← h.has _ (by omega)] at h1
    have := has_rng h h1
    omega
theorem pm_out {rd k n : Nat} {l : RL} {W : List Int} {g : Nat → Option Int} (h : Pm rd l W g) (hk : IsR g rd k) (hn : n ≤ k) : W.take n = outB g rd n := by
  have hkw := pm_ready_le h hk
  apply List.ext_getElem?
  intro i
  by_cases hi : i < n
  · have h1 := hk.1 i (by omega)
    obtain ⟨x, hx⟩ := Option.isSome_iff_exists.1 h1
    have h2 := h.byt (rd + i) x (by omega) hx
    rw [show rd + i - rd = i by omega] at h2
    rw [List.getElem?_take_of_lt hi, h2]
    unfold outB
    rw [List.getElem?_map, List.getElem?_range hi]
    simp [hx]
  · rw [List.getElem?_eq_none (by simp; omega), List.getElem?_eq_none (by rw [outB_len]; omega)]
theorem pm_cut {rd k n : Nat} {l : RL} {W : List Int} {g : Nat → Option Int} (h : Pm rd l W g) (hk : IsR g rd k) (hn : n ≤ k) : Pm (rd + n) (cutL l rd (rd + n : Nat) 2048) (W.drop n) g := by
  have hkw := pm_ready_le h hk
  have hgd := cutL_gd h.gd rd (rd + n : Nat) 2048
  have hlen : ((rd + n : Nat) : Int) ≤ (rd : Int) ∨ ((l.flatMap (cutP rd (rd + n : Nat))).length : Int) ≤ 2048 := by
    rcases Nat.eq_zero_or_pos n with rfl | h0
    · exact .inl (by omega)
    · right
      have hg2 := cut_gd rd (rd + n : Nat) (by omega) l h.gd
      have := gd_len _ rd (rd + W.length) hg2 (fun s hs => by
        rw [List.mem_flatMap] at hs
        obtain ⟨r, hr, hs⟩ := hs
        have h1 := cutP_in _ _ _ _ hs
        have h2 := h.rng r hr
        omega) (by omega)
      have := h.wl
      omega
  have hhas : ∀ k : Int, hasL (cutL l rd (rd + n : Nat) 2048) k = (hasL l k && !(decide ((rd : Int) ≤ k) && decide (k < (rd + n : Nat)))) := fun k => has_cutL hlen
  refine ⟨hgd, fun r hr => ?_, by have := h.wl; rw [List.length_drop]; omega, fun m hm => ?_, fun m x hm hx => ?_⟩
  · obtain ⟨k1, k2⟩ := mem_has hgd hr
    rw [hhas, Bool.and_eq_true] at k1 k2
    have j1 := has_rng h k1.1
    have j2 := has_rng h k2.1
    have j3 := k1.2
    simp at j3
    rw [List.length_drop]
    omega
  · rw [hhas, h.has m (by omega)]
    have : (decide ((rd : Int) ≤ (m : Int)) && decide ((m : Int) < ((rd + n : Nat) : Int))) = false := by simp; omega
    rw [this]
    simp
  · have := h.byt m x (by omega) hx
    rw [List.getElem?_drop, ← this]
    congr 1
    omega
/-- Laying the next gap's bytes of a piece. -/
theorem addG_glue (g : Nat → Option Int) {off from_ a e : Nat} {bs : List Int} (h0 : off ≤ from_) (h1 : from_ ≤ a) (h2 : a ≤ e) (h3 : e ≤ off + bs.length)
    (hs : ∀ n, from_ ≤ n → n < a → (addG g off (bs.take (from_ - off)) n).isSome = true) :
    addG (addG g off (bs.take (from_ - off))) a ((bs.take (e - off)).drop (a - off)) = addG g off (bs.take (e - off)) := by
  funext n
  cases hg : g n with
  | some x =>
    have e1 : addG g off (bs.take (from_ - off)) n = some x := by unfold addG; rw [hg]; rfl
    rw [addG_some (by rw [e1]; rfl), e1]
    unfold addG
    rw [hg]
    rfl
  | none =>
    have e1 : addG g off (bs.take (from_ - off)) n = pieceB off (bs.take (from_ - off)) n := addG_none hg
    rw [addG_none (g := g) hg]
    by_cases c1 : n < from_
    · have e2 : pieceB off (bs.take (from_ - off)) n = pieceB off (bs.take (e - off)) n := by
        unfold pieceB
        by_cases hh : off ≤ n
        · rw [if_pos hh, if_pos hh, List.getElem?_take_of_lt (by omega), List.getElem?_take_of_lt (by omega)]
        · rw [if_neg hh, if_neg hh]
      have e3 : pieceB a ((bs.take (e - off)).drop (a - off)) n = none := by
        unfold pieceB
        rw [if_neg (by omega)]
      unfold addG
      rw [hg, e3, e2]
      simp
    · have e2 : pieceB off (bs.take (from_ - off)) n = none := pieceB_out (by simp; omega)
      by_cases c2 : n < a
      · have := hs n (by omega) c2
        rw [e1, e2] at this
        cases this
      · rw [addG_none (by rw [e1, e2])]
        unfold pieceB
        rw [if_pos (by omega), if_pos (by omega), List.getElem?_drop]
        congr 1
        omega
theorem addG_full (g : Nat → Option Int) {off from_ : Nat} {bs : List Int} (h0 : off ≤ from_)
    (hs : ∀ n, from_ ≤ n → n < off + bs.length → (addG g off (bs.take (from_ - off)) n).isSome = true) : addG g off (bs.take (from_ - off)) = addG g off bs := by
  funext n
  cases hg : g n with
  | some x => unfold addG; rw [hg]; rfl
  | none =>
    rw [addG_none hg, addG_none hg]
    by_cases c : n < from_
    · unfold pieceB
      by_cases hh : off ≤ n
      · rw [if_pos hh, if_pos hh, List.getElem?_take_of_lt (by omega)]
      · rw [if_neg hh, if_neg hh]
    · by_cases c2 : n < off + bs.length
      · have := hs n (by omega) c2
        rw [addG_none hg, pieceB_out (by simp; omega)] at this
        cases this
      · rw [pieceB_out (by simp; omega), pieceB_out (by omega)]
/-- What stands below rd stands anyway: the piece begins there. -/
theorem addG_start (S : BS) (h : S.ok) (off : Nat) (bs : List Int) : addG S.g off (bs.take (max off S.rd - off)) = S.g := by
  funext n
  unfold addG
  cases hg : S.g n with
  | some x => rfl
  | none =>
    show pieceB off (bs.take (max off S.rd - off)) n = none
    have hn : ¬ n < S.rd := fun hh => by
      have := h.al n hh
      rw [hg] at this
      cases this
    exact pieceB_out (by simp; omega)
theorem addG_next (g : Nat → Option Int) (off i : Nat) (bs : List Int) (n : Nat) (hi : i < bs.length) :
    addG g off (bs.take (i + 1)) n = if n = off + i then (addG g off (bs.take i) n).or (some (bs.getD i 0)) else addG g off (bs.take i) n := by
  have key : pieceB off (bs.take (i + 1)) n = if n = off + i then some (bs.getD i 0) else pieceB off (bs.take i) n := by
    by_cases h : n = off + i
    · rw [if_pos h]
      subst h
      rw [pieceB_in (by omega) (by simp; omega), show off + i - off = i by omega, List.getD_eq_getElem?_getD, List.getD_eq_getElem?_getD, List.getElem?_take_of_lt (by omega)]
    · rw [if_neg h]
      unfold pieceB
      by_cases hh : off ≤ n
      · rw [if_pos hh, if_pos hh, List.getElem?_take, List.getElem?_take]
        by_cases h1 : n - off < i
        · rw [if_pos h1, if_pos (by omega)]
        · rw [if_neg h1, if_neg (by omega)]
      · rw [if_neg hh, if_neg hh]
  unfold addG
  rw [key]
  by_cases h : n = off + i
  · rw [if_pos h, if_pos h]
    subst h
    rw [pieceB_out (by simp; omega)]
    simp
  · rw [if_neg h, if_neg h]
end Go.Proofs.Ythgbnknahnaemaa
