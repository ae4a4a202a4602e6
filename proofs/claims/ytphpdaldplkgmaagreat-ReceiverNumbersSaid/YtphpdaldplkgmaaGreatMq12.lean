/-
  inbuf: what a buffer is by its document (BS), and how the program's set and row keep it: mathematics alone.
-/
import Derived.Test.YtphpdaldplkgmaaGreatMq8
import Derived.Test.YtphpdaldplkgmaaGreatQk
import Derived.Test.YtphpdaldplkgmaaGreatMq11
import Derived.Test.YtphpdaldplkgmaaGreatMq0
namespace Go.Proofs.YtphpdaldplkgmaaGreat
section
set_option linter.unusedVariables false
set_option linter.unusedSimpArgs false
open Go.RowKit
/-- A buffer: what was read, the highest end, the end; whether that is known; what came first at each offset. -/
structure BS where
  rd : Nat
  hi : Nat
  fi : Nat
  en : Bool
  g : Nat → Option Int
structure BS.ok (S : BS) : Prop where
  rh : S.rd ≤ S.hi
  hr : S.hi ≤ S.rd + 2048
  hm : S.hi ≤ 1099511628288
  fm : S.fi ≤ 1099511628288
  no : ∀ n, S.hi ≤ n → S.g n = none
  byt : ∀ n x, S.g n = some x → 0 ≤ x ∧ x < 256
  al : ∀ n, n < S.rd → (S.g n).isSome = true
def bs0 : BS := ⟨0, 0, 0, false, fun _ => none⟩
theorem bs0_ok : bs0.ok := ⟨Nat.le_refl _, by show 0 ≤ 0 + 2048; omega, by show 0 ≤ _; omega, by show 0 ≤ _; omega, fun _ _ => rfl, fun n x h => (by cases h), fun n h => (by have : n < 0 := h; omega)⟩
/-- The byte of a piece at an offset. -/
def pieceB (off : Nat) (bs : List Int) (n : Nat) : Option Int := if off ≤ n then bs[n - off]? else none
def addG (g : Nat → Option Int) (off : Nat) (bs : List Int) (n : Nat) : Option Int := (g n).or (pieceB off bs n)
theorem pieceB_in {off : Nat} {bs : List Int} {n : Nat} (h1 : off ≤ n) (h2 : n < off + bs.length) : pieceB off bs n = some (bs.getD (n - off) 0) := by
  unfold pieceB
  rw [if_pos h1, List.getD_eq_getElem?_getD, List.getElem?_eq_getElem (by omega)]
  rfl
theorem pieceB_out {off : Nat} {bs : List Int} {n : Nat} (h : n < off ∨ off + bs.length ≤ n) : pieceB off bs n = none := by
  unfold pieceB
  split
  · exact List.getElem?_eq_none (by omega)
  · rfl
theorem addG_some {g : Nat → Option Int} {off : Nat} {bs : List Int} {n : Nat} (h : (g n).isSome = true) : addG g off bs n = g n := by
  unfold addG
  cases hg : g n with
  | none => rw [hg] at h; cases h
  | some x => rfl
theorem addG_none {g : Nat → Option Int} {off : Nat} {bs : List Int} {n : Nat} (h : g n = none) : addG g off bs n = pieceB off bs n := by
  unfold addG
  rw [h]
  rfl
theorem addG_nil (g : Nat → Option Int) (off : Nat) : addG g off [] = g := by
  funext n
  unfold addG pieceB
  cases g n <;> simp
theorem addG_isSome (g : Nat → Option Int) (off : Nat) (bs : List Int) (n : Nat) : (addG g off bs n).isSome = ((g n).isSome || (decide (off ≤ n) && decide (n < off + bs.length))) := by
  unfold addG
  cases hg : g n with
  | some x => rfl
  | none =>
    show (pieceB off bs n).isSome = _
    by_cases h : off ≤ n ∧ n < off + bs.length
    · rw [pieceB_in h.1 h.2]
      simp [h.1, h.2]
    · rw [pieceB_out (by omega)]
      simp
      omega
/-- The error of Add, by number. -/
def addE (S : BS) (off : Nat) (len : Nat) (fin : Bool) : Int :=
  if 1099511627776 < off ∨ 512 < len then 1
  else if ((S.en && (decide (S.fi < off + len) || (fin && !decide (off + len = S.fi)))) || (fin && decide (off + len < S.hi))) = true then 30
  else if S.rd + 2048 < off + len then 23 else 0
def addS (S : BS) (off : Nat) (bs : List Int) (fin : Bool) : BS :=
  ⟨S.rd, max S.hi (off + bs.length), if fin then off + bs.length else S.fi, S.en || fin, addG S.g off bs⟩
theorem addS_ok {S : BS} (h : S.ok) {off : Nat} {bs : List Int} (fin : Bool) (hb : Byt bs) (h1 : off ≤ 1099511627776) (h2 : bs.length ≤ 512) (h3 : off + bs.length ≤ S.rd + 2048) : (addS S off bs fin).ok := by
  obtain ⟨k1, k2, k3, k4, k5, k6, k7⟩ := h
  refine ⟨?_, ?_, ?_, ?_, ?_, ?_, ?_⟩
  · show S.rd ≤ max S.hi (off + bs.length); omega
  · show max S.hi (off + bs.length) ≤ S.rd + 2048; omega
  · show max S.hi (off + bs.length) ≤ _; omega
  · show (if fin = true then off + bs.length else S.fi) ≤ _
    split <;> omega
  · intro n hn
    have hn' : max S.hi (off + bs.length) ≤ n := hn
    show addG S.g off bs n = none
    rw [addG_none (k5 n (by omega)), pieceB_out (by omega)]
  · intro n x hx
    have hx' : addG S.g off bs n = some x := hx
    cases hg : S.g n with
    | some y =>
      rw [addG_some (by rw [hg]; rfl)] at hx'
      exact k6 n x hx'
    | none =>
      rw [addG_none hg] at hx'
      by_cases hc : off ≤ n ∧ n < off + bs.length
      · rw [pieceB_in hc.1 hc.2] at hx'
        injection hx' with hx'
        rw [← hx']
        exact hb.getD _
      · rw [pieceB_out (by omega)] at hx'
        cases hx'
  · intro n hn
    have := k7 n hn
    show (addG S.g off bs n).isSome = true
    rw [addG_some this]
    exact this
/-- So many bytes are there without a gap. -/
def IsR (g : Nat → Option Int) (rd k : Nat) : Prop := (∀ i, i < k → (g (rd + i)).isSome = true) ∧ g (rd + k) = none
theorem isR_ex (g : Nat → Option Int) : ∀ (m rd : Nat), g (rd + m) = none → ∃ k, k ≤ m ∧ IsR g rd k
  | 0, rd, h => ⟨0, Nat.le_refl _, fun i hi => absurd hi (by omega), h⟩
  | m + 1, rd, h => by
    cases h0 : g rd with
    | none => exact ⟨0, by omega, fun i hi => absurd hi (by omega), h0⟩
    | some x =>
      obtain ⟨k, h1, h2, h3⟩ := isR_ex g m (rd + 1) (by rw [← h]; congr 1; omega)
      refine ⟨k + 1, by omega, fun i hi => ?_, by rw [← h3]; congr 1; omega⟩
      cases i with
      | zero => rw [Nat.add_zero, h0]; rfl
      | succ j => have := h2 j (by omega); rw [show rd + (j + 1) = rd + 1 + j by omega]; exact this
theorem BS.ok.ready {S : BS} (h : S.ok) : ∃ k, S.rd + k ≤ S.hi ∧ IsR S.g S.rd k := by
  obtain ⟨k, h1, h2⟩ := isR_ex S.g (S.hi - S.rd) S.rd (h.no _ (by have := h.rh; omega))
  exact ⟨k, by have := h.rh; omega, h2⟩
theorem IsR.uniq {g : Nat → Option Int} {rd k j : Nat} (h : IsR g rd k) (h' : IsR g rd j) : k = j := by
  rcases Nat.lt_trichotomy k j with hl | rfl | hl
  · have := h'.1 k hl
    rw [h.2] at this
    cases this
  · rfl
  · have := h.1 j hl
    rw [h'.2] at this
    cases this
theorem IsR.le {S : BS} {k : Nat} (h : S.ok) (h' : IsR S.g S.rd k) : S.rd + k ≤ S.hi := by
  obtain ⟨j, h1, h2⟩ := h.ready
  rw [h'.uniq h2]
  exact h1
def outB (g : Nat → Option Int) (rd n : Nat) : List Int := (List.range n).map fun i => (g (rd + i)).getD 0
theorem outB_len (g : Nat → Option Int) (rd n : Nat) : (outB g rd n).length = n := by simp [outB]
def takeS (S : BS) (n : Nat) : BS := ⟨S.rd + n, S.hi, S.fi, S.en, S.g⟩
theorem takeS_ok {S : BS} (h : S.ok) {n k : Nat} (hk : IsR S.g S.rd k) (hn : n ≤ k) : (takeS S n).ok := by
  have hle := hk.le h
  refine ⟨by show S.rd + n ≤ S.hi; omega, by have := h.hr; show S.hi ≤ S.rd + n + 2048; omega, h.hm, h.fm, h.no, h.byt, fun j hj => ?_⟩
  have hj' : j < S.rd + n := hj
  show (S.g j).isSome = true
  by_cases hlt : j < S.rd
  · exact h.al j hlt
  · have := hk.1 (j - S.rd) (by omega)
    rw [show S.rd + (j - S.rd) = j by omega] at this
    exact this
/-- The program's ranges and bytes keep what came from rd on. -/
structure Pm (rd : Nat) (l : RL) (W : List Int) (g : Nat → Option Int) : Prop where
  gd : Gd l
  rng : ∀ r ∈ l, (rd : Int) ≤ r.1 ∧ r.2 ≤ rd + W.length
  wl : W.length ≤ 2048
  has : ∀ n : Nat, rd ≤ n → hasL l n = (g n).isSome
  byt : ∀ (n : Nat) x, rd ≤ n → g n = some x → W[n - rd]? = some x
theorem pm0 : Pm 0 [] [] (fun _ => none) := ⟨Gd.nil_, fun r h => (by cases h), Nat.zero_le _, fun n _ => rfl, fun n x _ h => (by cases h)⟩
theorem gd_len : ∀ (l : RL) (lo hi : Int), Gd l → (∀ r ∈ l, lo ≤ r.1 ∧ r.2 ≤ hi) → lo ≤ hi + 1 → (l.length : Int) * 2 ≤ hi + 1 - lo
  | [], lo, hi, _, _, h => by simp; omega
  | r :: t, lo, hi, hg, hb, h => by
    have h' := gd_cons.1 hg
    have h1 := hb r (List.mem_cons_self ..)
    have h2 := h'.1
    unfold OkR at h2
    have ih := gd_len t (lo + 2) hi h'.2.1 (fun s hs => ⟨by have := h'.2.2 s hs; omega, (hb s (List.mem_cons_of_mem _ hs)).2⟩) (by omega)
    rw [List.length_cons]
    omega
theorem Pm.len {rd : Nat} {l : RL} {W : List Int} {g : Nat → Option Int} (h : Pm rd l W g) : l.length ≤ 1024 := by
  have := gd_len l rd (rd + W.length) h.gd h.rng (by omega)
  have := h.wl
  omega
theorem gapE_spec : ∀ (l : RL) (a to : Int), gapE l a to ≤ to ∧ (∀ r ∈ l, a < r.1 → gapE l a to ≤ r.1) ∧ (a < to → a < gapE l a to)
  | [], a, to => ⟨Int.le_refl _, fun r h => (by cases h), fun h => h⟩
  | r :: t, a, to => by
    have e : gapE (r :: t) a to = gapE t a (if a < r.1 then min to r.1 else to) := rfl
    obtain ⟨h1, h2, h3⟩ := gapE_spec t a (if a < r.1 then min to r.1 else to)
    rw [e]
    generalize gapE t a (if a < r.1 then min to r.1 else to) = E at *
    by_cases hc : a < r.1
    · rw [if_pos hc] at h1 h3
      refine ⟨by omega, fun s hs hl => ?_, fun h => h3 (by omega)⟩
      rcases List.mem_cons.1 hs with rfl | hs
      · omega
      · exact h2 s hs hl
    · rw [if_neg hc] at h1 h3
      refine ⟨h1, fun s hs hl => ?_, h3⟩
      rcases List.mem_cons.1 hs with rfl | hs
      · exact absurd hl hc
      · exact h2 s hs hl
theorem gapF_spec {l : RL} (hg : Gd l) (f : Int) : f ≤ gapF l f ∧ (∀ n, f ≤ n → n < gapF l f → hasL l n = true) ∧ hasL l (gapF l f) = false := by
  obtain ⟨A, B, e, ha, hb⟩ := split_at (fun r => decide (f < r.2)) l (hg.mono _ fun a b h1 h2 h3 h4 => by unfold OkR at *; simp at *; omega)
  have ha' : ∀ r ∈ A, r.2 ≤ f := fun r hr => by have := ha r hr; simp at this; exact this
  have hb' : ∀ r ∈ B, f < r.2 := fun r hr => by have := hb r hr; simpa using this
  have hga := gap_at hg e ha' hb'
  have hat := has_at hg e ha' hb'
  cases B with
  | nil =>
    obtain ⟨h1, h2⟩ : gapF l f = f ∧ ∀ to, gapE l f to = to := hga
    rw [h1]
    exact ⟨Int.le_refl _, fun n h h' => by omega, hat⟩
  | cons r t =>
    obtain ⟨hA, hB⟩ : (r.1 ≤ f → gapF l f = r.2 ∧ ∀ to, gapE l r.2 to = minHead t to) ∧ (f < r.1 → gapF l f = f ∧ ∀ to, gapE l f to = min to r.1) := hga
    have hgr := gd_cons.1 (gd_app.1 (e ▸ hg)).2.1
    have hr := hb' r (List.mem_cons_self ..)
    by_cases hrf : r.1 ≤ f
    · rw [(hA hrf).1]
      refine ⟨by omega, fun n h h' => ?_, ?_⟩
      · rw [has_true]
        exact ⟨r, by rw [e]; exact List.mem_append_right _ (List.mem_cons_self ..), by omega, h'⟩
      · have hat2 := has_at (n := r.2) (A := A ++ [r]) (B := t) hg (by rw [e]; simp) (fun x hx => by
          rcases List.mem_append.1 hx with hx | hx
          · have := ha' x hx; omega
          · rw [List.mem_singleton] at hx
            subst hx
            omega) (fun x hx => by
          have h1 := hgr.2.2 x hx
          have h2 := hgr.2.1.1 x hx
          unfold OkR at h2
          omega)
        rw [hat2]
        cases t with
        | nil => rfl
        | cons s u =>
          have := hgr.2.2 s (List.mem_cons_self ..)
          show decide (s.1 ≤ r.2) = false
          simp
          omega
    · rw [(hB (by omega)).1]
      refine ⟨Int.le_refl _, fun n h h' => by omega, ?_⟩
      rw [hat]
      show decide (r.1 ≤ f) = false
      simp
      omega
/-- What Gap answers, in words. -/
theorem gap_cases {l : RL} (hg : Gd l) (f to : Nat) :
    (gapV l f to = #[.agg #[.int .u64 0, .int .u64 0], .bool false] ∧ ∀ n : Nat, f ≤ n → n < to → hasL l n = true) ∨
    ∃ a e : Nat, gapV l f to = #[.agg #[.int .u64 a, .int .u64 e], .bool true] ∧ f ≤ a ∧ a < e ∧ e ≤ to ∧ (∀ n : Nat, f ≤ n → n < a → hasL l n = true) ∧ (∀ n : Nat, a ≤ n → n < e → hasL l n = false) := by
  obtain ⟨h1, h2, h3⟩ := gapF_spec hg f
  obtain ⟨k1, k2, k3⟩ := gapE_spec l (gapF l f) to
  unfold gapV
  split
  · rename_i h
    exact .inl ⟨rfl, fun n hn hn' => h2 n (by omega) (by omega)⟩
  · rename_i h
    right
    obtain ⟨a, ha⟩ : ∃ a : Nat, gapF l f = (a : Int) := ⟨(gapF l f).toNat, by omega⟩
    rw [ha] at h1 h2 h3 k1 k2 k3 h ⊢
    have k3' := k3 (by omega)
    obtain ⟨e, he⟩ : ∃ e : Nat, gapE l a to = (e : Int) := ⟨(gapE l a to).toNat, by omega⟩
    rw [he] at k1 k2 k3' ⊢
    clear k3
    refine ⟨a, e, rfl, by omega, by omega, by omega, fun n hn hn' => h2 n (by omega) (by omega), fun n hn hn' => ?_⟩
    cases hh : hasL l n with
    | false => rfl
    | true =>
      obtain ⟨r, hr, hr1, hr2⟩ := has_true.1 hh
      by_cases hc : (a : Int) < r.1
      · have := k2 r hr hc
        omega
      · have : hasL l a = true := has_true.2 ⟨r, hr, by omega, by omega⟩
        rw [h3] at this
        cases this
end
section
set_option linter.unusedVariables false
set_option linter.unusedSimpArgs false
open Go.RowKit
/-- The row is long enough for so many. -/
def padW (W : List Int) (n : Nat) : List Int := W ++ List.replicate (n - W.length) 0
theorem padW_len (W : List Int) (n : Nat) : (padW W n).length = max W.length n := by simp [padW]; omega
theorem padW_id {W : List Int} {n : Nat} (h : n ≤ W.length) : padW W n = W := by
  unfold padW
  rw [show n - W.length = 0 by omega]
  simp
theorem padW_get {W : List Int} {n i : Nat} {x : Int} (h : W[i]? = some x) : (padW W n)[i]? = some x := by
  unfold padW
  have := (List.getElem?_eq_some_iff.1 h).1
  rw [List.getElem?_append_left this]
  exact h
theorem padW_byt {W : List Int} (h : Byt W) (n : Nat) : Byt (padW W n) := h.app fun y hy => by rw [List.eq_of_mem_replicate hy]; omega
theorem splice_get_out {α : Type} (L cs : List α) (o i : Nat) (h : i < o ∨ o + cs.length ≤ i) (ho : o + cs.length ≤ L.length) : (splice L o cs)[i]? = L[i]? := by
  unfold splice
  rcases h with h | h
  · rw [List.getElem?_append_left (by simp; omega), List.getElem?_take_of_lt h]
  · rw [List.getElem?_append_right (by simp; omega), List.getElem?_append_right (by simp; omega), List.getElem?_drop]
    congr 1
    simp; omega
theorem splice_get_in {α : Type} (L cs : List α) (o i : Nat) (h : o ≤ i) (h2 : i < o + cs.length) (ho : o + cs.length ≤ L.length) : (splice L o cs)[i]? = cs[i - o]? := by
  unfold splice
  rw [List.getElem?_append_right (by simp; omega), List.getElem?_append_left (by simp; omega)]
  congr 1
  simp; omega
theorem splice_byt {W bs : List Int} (h : Byt W) (hb : Byt bs) (o : Nat) : Byt (splice W o bs) := (h.take o).app (hb.app (h.drop _))
theorem splice_map {α β : Type} (f : α → β) (L cs : List α) (o : Nat) : splice (L.map f) o (cs.map f) = (splice L o cs).map f := by simp [splice]
theorem has_rng {rd : Nat} {l : RL} {W : List Int} {g : Nat → Option Int} (h : Pm rd l W g) {k : Int} (hk : hasL l k = true) : (rd : Int) ≤ k ∧ k < rd + W.length := by
  obtain ⟨r, hr, h1, h2⟩ := has_true.1 hk
  have := h.rng r hr
  omega
theorem mem_has {l : RL} (hg : Gd l) {r : Int × Int} (hr : r ∈ l) : hasL l r.1 = true ∧ hasL l (r.2 - 1) = true := by
  have := hg.1 r hr
  unfold OkR at this
  exact ⟨has_true.2 ⟨r, hr, by omega, by omega⟩, has_true.2 ⟨r, hr, by omega, by omega⟩⟩
theorem pm_lay {rd off : Nat} {l : RL} {W bs : List Int} {g : Nat → Option Int} (h : Pm rd l W g) (h1 : rd ≤ off) (h2 : off + bs.length ≤ rd + 2048) (hm : rd ≤ 1099511628288)
    (hno : ∀ n, off ≤ n → n < off + bs.length → g n = none) :
    Pm rd (addV l off (off + bs.length : Nat) 2048) (splice (padW W (off + bs.length - rd)) (off - rd) bs) (addG g off bs) := by
  have hgd := addV_gd h.gd off (off + bs.length : Nat) 2048 (by omega)
  have hlen := addGo_len l ((off : Int), ((off + bs.length : Nat) : Int)) false
  have hl := h.len
  have hhas : ∀ k : Int, hasL (addV l off (off + bs.length : Nat) 2048) k = (hasL l k || (decide ((off : Int) ≤ k) && decide (k < (off + bs.length : Nat)))) := fun k => has_addV h.gd (by omega) (by omega)
  have hpl := padW_len W (off + bs.length - rd)
  have hfit : off - rd + bs.length ≤ (padW W (off + bs.length - rd)).length := by rw [hpl]; omega
  have hsl : (splice (padW W (off + bs.length - rd)) (off - rd) bs).length = max W.length (off + bs.length - rd) := by rw [length_splice _ _ _ hfit, hpl]
  refine ⟨hgd, fun r hr => ?_, ?_, fun n hn => ?_, fun n x hn hx => ?_⟩
  · obtain ⟨k1, k2⟩ := mem_has hgd hr
    rw [hhas] at k1 k2
    rw [hsl]
    rw [Bool.or_eq_true, Bool.and_eq_true, decide_eq_true_eq, decide_eq_true_eq] at k1 k2
    constructor
    · rcases k1 with k1 | k1
      · exact (has_rng h k1).1
      · omega
    · rcases k2 with k2 | k2
      · have := (has_rng h k2).2
        omega
      · omega
  · rw [hsl]
    have := h.wl
    omega
  · rw [hhas, addG_isSome, h.has n hn]
    congr 1
    have e1 : ((off : Int) ≤ (n : Int)) = (off ≤ n) := by simp
    have e2 : ((n : Int) < ((off + bs.length : Nat) : Int)) = (n < off + bs.length) := by simp only [eq_iff_iff]; omega
    simp only [e1, e2]
  · by_cases hc : off ≤ n ∧ n < off + bs.length
    · rw [addG_none (hno n hc.1 hc.2)] at hx
      rw [splice_get_in _ _ _ _ (by omega) (by omega) hfit]
      unfold pieceB at hx
      rw [if_pos hc.1] at hx
      rw [← hx]
      congr 1
      omega
    · have hgx : g n = some x := by
        cases hg : g n with
        | some y =>
          rw [addG_some (by rw [hg]; rfl), hg] at hx
          exact hx
        | none =>
          rw [addG_none hg, pieceB_out (by omega)] at hx
          cases hx
      rw [splice_get_out _ _ _ _ (by omega) hfit]
      exact padW_get (h.byt n x hn hgx)
theorem pm_ready_le {rd k : Nat} {l : RL} {W : List Int} {g : Nat → Option Int} (h : Pm rd l W g) (hk : IsR g rd k) : k ≤ W.length := by
  rcases Nat.eq_zero_or_pos k with rfl | h0
  · omega
  · have h1 := hk.1 (k - 1) (by omega)
    rw [← h.has _ (by omega)] at h1
    have := has_rng h h1
    omega
theorem pm_out {rd k n : Nat} {l : RL} {W : List Int} {g : Nat → Option Int} (h : Pm rd l W g) (hk : IsR g rd k) (hn : n ≤ k) : W.take n = outB g rd n := by
  have hkw := pm_ready_le h hk
  apply List.ext_getElem?
  intro i
  by_cases hi : i < n
  · have h1 := hk.1 i (by omega)
    obtain ⟨x, hx⟩ := Option.isSome_iff_exists.1 h1
    have h2 := h.byt (rd + i) x (by omega) hx
    rw [show rd + i - rd = i by omega] at h2
    rw [List.getElem?_take_of_lt hi, h2]
    unfold outB
    rw [List.getElem?_map, List.getElem?_range hi]
    simp [hx]
  · rw [List.getElem?_eq_none (by simp; omega), List.getElem?_eq_none (by rw [outB_len]; omega)]
theorem pm_cut {rd k n : Nat} {l : RL} {W : List Int} {g : Nat → Option Int} (h : Pm rd l W g) (hk : IsR g rd k) (hn : n ≤ k) : Pm (rd + n) (cutL l rd (rd + n : Nat) 2048) (W.drop n) g := by
  have hkw := pm_ready_le h hk
  have hgd := cutL_gd h.gd rd (rd + n : Nat) 2048
  have hlen : ((rd + n : Nat) : Int) ≤ (rd : Int) ∨ ((l.flatMap (cutP rd (rd + n : Nat))).length : Int) ≤ 2048 := by
    rcases Nat.eq_zero_or_pos n with rfl | h0
    · exact .inl (by omega)
    · right
      have hg2 := cut_gd rd (rd + n : Nat) (by omega) l h.gd
      have := gd_len _ rd (rd + W.length) hg2 (fun s hs => by
        rw [List.mem_flatMap] at hs
        obtain ⟨r, hr, hs⟩ := hs
        have h1 := cutP_in _ _ _ _ hs
        have h2 := h.rng r hr
        omega) (by omega)
      have := h.wl
      omega
  have hhas : ∀ k : Int, hasL (cutL l rd (rd + n : Nat) 2048) k = (hasL l k && !(decide ((rd : Int) ≤ k) && decide (k < (rd + n : Nat)))) := fun k => has_cutL hlen
  refine ⟨hgd, fun r hr => ?_, by have := h.wl; rw [List.length_drop]; omega, fun m hm => ?_, fun m x hm hx => ?_⟩
  · obtain ⟨k1, k2⟩ := mem_has hgd hr
    rw [hhas, Bool.and_eq_true] at k1 k2
    have j1 := has_rng h k1.1
    have j2 := has_rng h k2.1
    have j3 := k1.2
    simp at j3
    rw [List.length_drop]
    omega
  · rw [hhas, h.has m (by omega)]
    have : (decide ((rd : Int) ≤ (m : Int)) && decide ((m : Int) < ((rd + n : Nat) : Int))) = false := by simp; omega
    rw [this]
    simp
  · have := h.byt m x (by omega) hx
    rw [List.getElem?_drop, ← this]
    congr 1
    omega
/-- Laying the next gap's bytes of a piece. -/
theorem addG_glue (g : Nat → Option Int) {off from_ a e : Nat} {bs : List Int} (h0 : off ≤ from_) (h1 : from_ ≤ a) (h2 : a ≤ e) (h3 : e ≤ off + bs.length)
    (hs : ∀ n, from_ ≤ n → n < a → (addG g off (bs.take (from_ - off)) n).isSome = true) :
    addG (addG g off (bs.take (from_ - off))) a ((bs.take (e - off)).drop (a - off)) = addG g off (bs.take (e - off)) := by
  funext n
  cases hg : g n with
  | some x =>
    have e1 : addG g off (bs.take (from_ - off)) n = some x := by unfold addG; rw [hg]; rfl
    rw [addG_some (by rw [e1]; rfl), e1]
    unfold addG
    rw [hg]
    rfl
  | none =>
    have e1 : addG g off (bs.take (from_ - off)) n = pieceB off (bs.take (from_ - off)) n := addG_none hg
    rw [addG_none (g := g) hg]
    by_cases c1 : n < from_
    · have e2 : pieceB off (bs.take (from_ - off)) n = pieceB off (bs.take (e - off)) n := by
        unfold pieceB
        by_cases hh : off ≤ n
        · rw [if_pos hh, if_pos hh, List.getElem?_take_of_lt (by omega), List.getElem?_take_of_lt (by omega)]
        · rw [if_neg hh, if_neg hh]
      have e3 : pieceB a ((bs.take (e - off)).drop (a - off)) n = none := by
        unfold pieceB
        rw [if_neg (by omega)]
      unfold addG
      rw [hg, e3, e2]
      simp
    · have e2 : pieceB off (bs.take (from_ - off)) n = none := pieceB_out (by simp; omega)
      by_cases c2 : n < a
      · have := hs n (by omega) c2
        rw [e1, e2] at this
        cases this
      · rw [addG_none (by rw [e1, e2])]
        unfold pieceB
        rw [if_pos (by omega), if_pos (by omega), List.getElem?_drop]
        congr 1
        omega
theorem addG_full (g : Nat → Option Int) {off from_ : Nat} {bs : List Int} (h0 : off ≤ from_)
    (hs : ∀ n, from_ ≤ n → n < off + bs.length → (addG g off (bs.take (from_ - off)) n).isSome = true) : addG g off (bs.take (from_ - off)) = addG g off bs := by
  funext n
  cases hg : g n with
  | some x => unfold addG; rw [hg]; rfl
  | none =>
    rw [addG_none hg, addG_none hg]
    by_cases c : n < from_
    · unfold pieceB
      by_cases hh : off ≤ n
      · rw [if_pos hh, if_pos hh, List.getElem?_take_of_lt (by omega)]
      · rw [if_neg hh, if_neg hh]
    · by_cases c2 : n < off + bs.length
      · have := hs n (by omega) c2
        rw [addG_none hg, pieceB_out (by simp; omega)] at this
        cases this
      · rw [pieceB_out (by simp; omega), pieceB_out (by omega)]
/-- What stands below rd stands anyway: the piece begins there. -/
theorem addG_start (S : BS) (h : S.ok) (off : Nat) (bs : List Int) : addG S.g off (bs.take (max off S.rd - off)) = S.g := by
  funext n
  unfold addG
  cases hg : S.g n with
  | some x => rfl
  | none =>
    show pieceB off (bs.take (max off S.rd - off)) n = none
    have hn : ¬ n < S.rd := fun hh => by
      have := h.al n hh
      rw [hg] at this
      cases this
    exact pieceB_out (by simp; omega)
theorem addG_next (g : Nat → Option Int) (off i : Nat) (bs : List Int) (n : Nat) (hi : i < bs.length) :
    addG g off (bs.take (i + 1)) n = if n = off + i then (addG g off (bs.take i) n).or (some (bs.getD i 0)) else addG g off (bs.take i) n := by
  have key : pieceB off (bs.take (i + 1)) n = if n = off + i then some (bs.getD i 0) else pieceB off (bs.take i) n := by
    by_cases h : n = off + i
    · rw [if_pos h]
      subst h
      rw [pieceB_in (by omega) (by simp; omega), show off + i - off = i by omega, List.getD_eq_getElem?_getD, List.getD_eq_getElem?_getD, List.getElem?_take_of_lt (by omega)]
    · rw [if_neg h]
      unfold pieceB
      by_cases hh : off ≤ n
      · rw [if_pos hh, if_pos hh, List.getElem?_take, List.getElem?_take]
        by_cases h1 : n - off < i
        · rw [if_pos h1, if_pos (by omega)]
        · rw [if_neg h1, if_neg (by omega)]
      · rw [if_neg hh, if_neg hh]
  unfold addG
  rw [key]
  by_cases h : n = off + i
  · rw [if_pos h, if_pos h]
    subst h
    rw [pieceB_out (by simp; omega)]
    simp
  · rw [if_neg h, if_neg h]
end
end Go.Proofs.YtphpdaldplkgmaaGreat
