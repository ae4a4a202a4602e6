/-
  inbuf: what a buffer is by its document (BS), and how the program's set and row keep it: mathematics alone.
-/
import Derived.Test.YtndaikeeikimeaaMq1
import Derived.Test.YtndaikeeikimeaaQk
import Derived.Test.YtndaikeeikimeaaMq4
import Derived.Test.YtndaikeeikimeaaMq0
import Derived.Test.YtndaikeeikimeaaMq7
import Derived.StillTailTactics
namespace Go.Proofs.Ytndaikeeikimeaa
section
set_option linter.unusedVariables false
set_option linter.unusedSimpArgs false
open Go.RowKit
/-- A buffer: what was read, the highest end, the end; whether that is known; what came first at each offset. -/
structure BS where
  rd : Nat
  hi : Nat
  fi : Nat
  en : Bool
  g : Nat → Option Int
structure BS.ok (S : BS) : Prop where
  rh : S.rd ≤ S.hi
  hr : S.hi ≤ S.rd + 2048
  hm : S.hi ≤ 1099511628288
  fm : S.fi ≤ 1099511628288
  no : ∀ n, S.hi ≤ n → S.g n = none
  byt : ∀ n x, S.g n = some x → 0 ≤ x ∧ x < 256
  al : ∀ n, n < S.rd → (S.g n).isSome = true
def bs0 : BS := ⟨0, 0, 0, false, fun _ => none⟩
theorem bs0_ok : bs0.ok := ⟨Nat.le_refl _, by show 0 ≤ 0 + 2048; omega, by show 0 ≤ _; omega, by show 0 ≤ _; omega, fun _ _ => rfl, fun n x h => (by cases h), fun n h => (by have : n < 0 := h; omega)⟩
/-- The byte of a piece at an offset. -/
def pieceB (off : Nat) (bs : List Int) (n : Nat) : Option Int := if off ≤ n then bs[n - off]? else none
def addG (g : Nat → Option Int) (off : Nat) (bs : List Int) (n : Nat) : Option Int := (g n).or (pieceB off bs n)
theorem pieceB_in {off : Nat} {bs : List Int} {n : Nat} (h1 : off ≤ n) (h2 : n < off + bs.length) : pieceB off bs n = some (bs.getD (n - off) 0) := by
  unfold pieceB
  rw [if_pos h1, List.getD_eq_getElem?_getD, List.getElem?_eq_getElem (by omega)]
  rfl
theorem pieceB_out {off : Nat} {bs : List Int} {n : Nat} (h : n < off ∨ off + bs.length ≤ n) : pieceB off bs n = none := by
  unfold pieceB
  split
  · exact List.getElem?_eq_none (by omega)
  · rfl
theorem addG_some {g : Nat → Option Int} {off : Nat} {bs : List Int} {n : Nat} (h : (g n).isSome = true) : addG g off bs n = g n := by
  unfold addG
  cases hg : g n with
  | none => rw [hg] at h; cases h
  | some x => rfl
theorem addG_none {g : Nat → Option Int} {off : Nat} {bs : List Int} {n : Nat} (h : g n = none) : addG g off bs n = pieceB off bs n := by
  unfold addG
  rw [h]
  rfl
theorem addG_isSome (g : Nat → Option Int) (off : Nat) (bs : List Int) (n : Nat) : (addG g off bs n).isSome = ((g n).isSome || (decide (off ≤ n) && decide (n < off + bs.length))) := by
  unfold addG
  cases hg : g n with
  | some x => rfl
  | none =>
    show (pieceB off bs n).isSome = _
    by_cases h : off ≤ n ∧ n < off + bs.length
    · rw [pieceB_in h.1 h.2]
      simp [h.1, h.2]
    · rw [pieceB_out (by omega)]
      simp
      omega
/-- The error of Add, by number. -/
def addE (S : BS) (off : Nat) (len : Nat) (fin : Bool) : Int :=
  if 1099511627776 < off ∨ 512 < len then 1
  else if ((S.en && (decide (S.fi < off + len) || (fin && !decide (off + len = S.fi)))) || (fin && decide (off + len < S.hi))) = true then 30
  else if S.rd + 2048 < off + len then 23 else 0
def addS (S : BS) (off : Nat) (bs : List Int) (fin : Bool) : BS :=
  ⟨S.rd, max S.hi (off + bs.length), if fin then off + bs.length else S.fi, S.en || fin, addG S.g off bs⟩
theorem addS_ok {S : BS} (h : S.ok) {off : Nat} {bs : List Int} (fin : Bool) (hb : Byt bs) (h1 : off ≤ 1099511627776) (h2 : bs.length ≤ 512) (h3 : off + bs.length ≤ S.rd + 2048) : (addS S off bs fin).ok := by
  obtain ⟨k1, k2, k3, k4, k5, k6, k7⟩ := h
  refine ⟨?_, ?_, ?_, ?_, ?_, ?_, ?_⟩
  · show S.rd ≤ max S.hi (off + bs.length); omega
  · show max S.hi (off + bs.length) ≤ S.rd + 2048; omega
  · show max S.hi (off + bs.length) ≤ _; omega
  · show (if fin = true then off + bs.length else S.fi) ≤ _
    split <;> omega
  · intro n hn
    have hn' : max S.hi (off + bs.length) ≤ n := hn
    show addG S.g off bs n = none
    rw [addG_none (k5 n (by omega)), pieceB_out (by omega)]
  · intro n x hx
    have hx' : addG S.g off bs n = some x := hx
    cases hg : S.g n with
    | some y =>
      rw [addG_some (by rw [hg]; rfl)] at hx'
      exact k6 n x hx'
    | none =>
      rw [addG_none hg] at hx'
      by_cases hc : off ≤ n ∧ n < off + bs.length
      · rw [pieceB_in hc.1 hc.2] at hx'
        injection hx' with hx'
        rw [← hx']
        exact hb.getD _
      · rw [pieceB_out (by omega)] at hx'
        cases hx'
  · intro n hn
    have := k7 n hn
    show (addG S.g off bs n).isSome = true
    rw [addG_some this]
    exact this
/-- So many bytes are there without a gap. -/
def IsR (g : Nat → Option Int) (rd k : Nat) : Prop := (∀ i, i < k → (g (rd + i)).isSome = true) ∧ g (rd + k) = none
theorem isR_ex (g : Nat → Option Int) : ∀ (m rd : Nat), g (rd + m) = none → ∃ k, k ≤ m ∧ IsR g rd k
  | 0, rd, h => ⟨0, Nat.le_refl _, fun i hi => absurd hi (by omega), h⟩
  | m + 1, rd, h => by
    cases h0 : g rd with
    | none => exact ⟨0, by omega, fun i hi => absurd hi (by omega), h0⟩
    | some x =>
      obtain ⟨k, h1, h2, h3⟩ := isR_ex g m (rd + 1) (by rw [← h]; congr 1; omega)
      refine ⟨k + 1, by omega, fun i hi => ?_, by rw [← h3]; congr 1; omega⟩
      cases i with
      | zero => rw [Nat.add_zero, h0]; rfl
      | succ j => have := h2 j (by omega); rw [show rd + (j + 1) = rd + 1 + j by omega]; exact this
theorem BS.ok.ready {S : BS} (h : S.ok) : ∃ k, S.rd + k ≤ S.hi ∧ IsR S.g S.rd k := by
  obtain ⟨k, h1, h2⟩ := isR_ex S.g (S.hi - S.rd) S.rd (h.no _ (by have := h.rh; omega))
  exact ⟨k, by have := h.rh; omega, h2⟩
theorem IsR.uniq {g : Nat → Option Int} {rd k j : Nat} (h : IsR g rd k) (h' : IsR g rd j) : k = j := by
  rcases Nat.lt_trichotomy k j with hl | rfl | hl
  · have := h'.1 k hl
    rw [h.2] at this
    cases this
  · rfl
  · have := h.1 j hl
    rw [h'.2] at this
    cases this
theorem IsR.le {S : BS} {k : Nat} (h : S.ok) (h' : IsR S.g S.rd k) : S.rd + k ≤ S.hi := by
  obtain ⟨j, h1, h2⟩ := h.ready
  rw [h'.uniq h2]
  exact h1
/-- The program's ranges and bytes keep what came from rd on. -/
structure Pm (rd : Nat) (l : RL) (W : List Int) (g : Nat → Option Int) : Prop where
  gd : Gd l
  rng : ∀ r ∈ l, (rd : Int) ≤ r.1 ∧ r.2 ≤ rd + W.length
  wl : W.length ≤ 2048
  has : ∀ n : Nat, rd ≤ n → hasL l n = (g n).isSome
  byt : ∀ (n : Nat) x, rd ≤ n → g n = some x → W[n - rd]? = some x
theorem pm0 : Pm 0 [] [] (fun _ => none) := ⟨Gd.nil_, fun r h => (by cases h), Nat.zero_le _, fun n _ => rfl, fun n x _ h => (by cases h)⟩
theorem gd_len : ∀ (l : RL) (lo hi : Int), Gd l → (∀ r ∈ l, lo ≤ r.1 ∧ r.2 ≤ hi) → lo ≤ hi + 1 → (l.length : Int) * 2 ≤ hi + 1 - lo
  | [], lo, hi, _, _, h => by simp; omega
  | r :: t, lo, hi, hg, hb, h => by
    have h' := gd_cons.1 hg
    have h1 := hb r (List.mem_cons_self ..)
    have h2 := h'.1
    unfold OkR at h2
    have ih := gd_len t (lo + 2) hi h'.2.1 (fun s hs => ⟨by have := h'.2.2 s hs; omega, (hb s (List.mem_cons_of_mem _ hs)).2⟩) (by omega)
    rw [List.length_cons]
    omega
theorem Pm.len {rd : Nat} {l : RL} {W : List Int} {g : Nat → Option Int} (h : Pm rd l W g) : l.length ≤ 1024 := by
  have := gd_len l rd (rd + W.length) h.gd h.rng (by omega)
  have := h.wl
  omega
theorem gapE_spec : ∀ (l : RL) (a to : Int), gapE l a to ≤ to ∧ (∀ r ∈ l, a < r.1 → gapE l a to ≤ r.1) ∧ (a < to → a < gapE l a to)
  | [], a, to => ⟨Int.le_refl _, fun r h => (by cases h), fun h => h⟩
  | r :: t, a, to => by
    have e : gapE (r :: t) a to = gapE t a (if a < r.1 then min to r.1 else to) := rfl
    obtain ⟨h1, h2, h3⟩ := gapE_spec t a (if a < r.1 then min to r.1 else to)
    rw [e]
    generalize gapE t a (if a < r.1 then min to r.1 else to) = E at *
    by_cases hc : a < r.1
    · rw [if_pos hc] at h1 h3
      refine ⟨by omega, fun s hs hl => ?_, fun h => h3 (by omega)⟩
      rcases List.mem_cons.1 hs with rfl | hs
      · omega
      · exact h2 s hs hl
    · rw [if_neg hc] at h1 h3
      refine ⟨h1, fun s hs hl => ?_, h3⟩
      rcases List.mem_cons.1 hs with rfl | hs
      · exact absurd hl hc
      · exact h2 s hs hl
theorem gapF_spec {l : RL} (hg : Gd l) (f : Int) : f ≤ gapF l f ∧ (∀ n, f ≤ n → n < gapF l f → hasL l n = true) ∧ hasL l (gapF l f) = false := by
  obtain ⟨A, B, e, ha, hb⟩ := split_at (fun r => decide (f < r.2)) l (hg.mono _ fun a b h1 h2 h3 h4 => by unfold OkR at *; simp at *; omega)
  have ha' : ∀ r ∈ A, r.2 ≤ f := fun r hr => by have := ha r hr; simp at this; exact this
  have hb' : ∀ r ∈ B, f < r.2 := fun r hr => by have := hb r hr; simpa using this
  have hga := gap_at hg e ha' hb'
  have hat := has_at hg e ha' hb'
  cases B with
  | nil =>
    obtain ⟨h1, h2⟩ : gapF l f = f ∧ ∀ to, gapE l f to = to := hga
    rw [h1]
    exact ⟨Int.le_refl _, fun n h h' => by omega, hat⟩
  | cons r t =>
    obtain ⟨hA, hB⟩ : (r.1 ≤ f → gapF l f = r.2 ∧ ∀ to, gapE l r.2 to = minHead t to) ∧ (f < r.1 → gapF l f = f ∧ ∀ to, gapE l f to = min to r.1) := hga
    have hgr := gd_cons.1 (gd_app.1 (e ▸ hg)).2.1
    have hr := hb' r (List.mem_cons_self ..)
    by_cases hrf : r.1 ≤ f
    · rw [(hA hrf).1]
      refine ⟨by omega, fun n h h' => ?_, ?_⟩
      · rw [has_true]
        exact ⟨r, by rw [e]; exact List.mem_append_right _ (List.mem_cons_self ..), by omega, h'⟩
      · have hat2 := has_at (n := r.2) (A := A ++ [r]) (B := t) hg (by rw [e]; simp) (fun x hx => by
          rcases List.mem_append.1 hx with hx | hx
          · have := ha' x hx; omega
          · rw [List.mem_singleton] at hx
            subst hx
            omega) (fun x hx => by
          have h1 := hgr.2.2 x hx
          have h2 := hgr.2.1.1 x hx
          unfold OkR at h2
          omega)
        rw [hat2]
        cases t with
        | nil => rfl
        | cons s u =>
          have := hgr.2.2 s (List.mem_cons_self ..)
          show decide (s.1 ≤ r.2) = false
          simp
          omega
    · rw [(hB (by omega)).1]
      refine ⟨Int.le_refl _, fun n h h' => by omega, ?_⟩
      rw [hat]
      show decide (r.1 ≤ f) = false
      simp
      omega
/-- What Gap answers, in words. -/
theorem gap_cases {l : RL} (hg : Gd l) (f to : Nat) :
    (gapV l f to = #[.agg #[.int .u64 0, .int .u64 0], .bool false] ∧ ∀ n : Nat, f ≤ n → n < to → hasL l n = true) ∨
    ∃ a e : Nat, gapV l f to = #[.agg #[.int .u64 a, .int .u64 e], .bool true] ∧ f ≤ a ∧ a < e ∧ e ≤ to ∧ (∀ n : Nat, f ≤ n → n < a → hasL l n = true) ∧ (∀ n : Nat, a ≤ n → n < e → hasL l n = false) := by
  obtain ⟨h1, h2, h3⟩ := gapF_spec hg f
  obtain ⟨k1, k2, k3⟩ := gapE_spec l (gapF l f) to
  unfold gapV
  split
  · rename_i h
    exact .inl ⟨rfl, fun n hn hn' => h2 n (by omega) (by omega)⟩
  · rename_i h
    right
    obtain ⟨a, ha⟩ : ∃ a : Nat, gapF l f = (a : Int) := ⟨(gapF l f).toNat, by omega⟩
    rw [ha] at h1 h2 h3 k1 k2 k3 h ⊢
    have k3' := k3 (by omega)
    obtain ⟨e, he⟩ : ∃ e : Nat, gapE l a to = (e : Int) := ⟨(gapE l a to).toNat, by omega⟩
    rw [he] at k1 k2 k3' ⊢
    clear k3
    refine ⟨a, e, rfl, by omega, by omega, by omega, fun n hn hn' => h2 n (by omega) (by omega), fun n hn hn' => ?_⟩
    cases hh : hasL l n with
    | false => rfl
    | true =>
      obtain ⟨r, hr, hr1, hr2⟩ := has_true.1 hh
      by_cases hc : (a : Int) < r.1
      · have := k2 r hr hc
        omega
      · have : hasL l a = true := has_true.2 ⟨r, hr, by omega, by omega⟩
        rw [h3] at this
        cases this
end
section
set_option linter.unusedVariables false
set_option linter.unusedSimpArgs false
section
variable {S : OS} {la ll : RL}
/-- Lost up to f. -/
def lostT (S : OS) (lo f : Nat) (j : Nat) : Bool := S.ag j || (decide (lo ≤ j) && decide (j < f) && !S.ak j)
end
end
section
set_option linter.unusedVariables false
set_option linter.unusedSimpArgs false
open Go.RowKit
section
variable {w : World} {base p : Nat} {O : Nat → Prop} {S : OS}
end
end
end Go.Proofs.Ytndaikeeikimeaa
