/-
  inbuf: what a buffer is by its document (BS), and how the program's set and row keep it: mathematics alone.
-/
import Derived.Test.YtbejpafephofaaaGreatMq1
import Derived.Test.YtbejpafephofaaaGreatQk
import Derived.Test.YtbejpafephofaaaGreatMq4
import Derived.Test.YtbejpafephofaaaGreatMq0
import Derived.Test.YtbejpafephofaaaGreatMq7
import Derived.StillTailTactics
namespace Go.Proofs.YtbejpafephofaaaGreat
section
set_option linter.unusedVariables false
set_option linter.unusedSimpArgs false
open Go.RowKit
/-- A buffer: what was read, the highest end, the end; whether that is known; what came first at each offset. -/
structure BS where
  rd : Nat
  hi : Nat
  fi : Nat
  en : Bool
  g : Nat → Option Int
structure BS.ok (S : BS) : Prop where
  rh : S.rd ≤ S.hi
  hr : S.hi ≤ S.rd + 2048
  hm : S.hi ≤ 1099511628288
  fm : S.fi ≤ 1099511628288
  no : ∀ n, S.hi ≤ n → S.g n = none
  byt : ∀ n x, S.g n = some x → 0 ≤ x ∧ x < 256
  al : ∀ n, n < S.rd → (S.g n).isSome = true
def bs0 : BS := ⟨0, 0, 0, false, fun _ => none⟩
/-- So many bytes are there without a gap. -/
def IsR (g : Nat → Option Int) (rd k : Nat) : Prop := (∀ i, i < k → (g (rd + i)).isSome = true) ∧ g (rd + k) = none
theorem isR_ex (g : Nat → Option Int) : ∀ (m rd : Nat), g (rd + m) = none → ∃ k, k ≤ m ∧ IsR g rd k
  | 0, rd, h => ⟨0, Nat.le_refl _, fun i hi => absurd hi (by omega), h⟩
  | m + 1, rd, h => by
    cases h0 : g rd with
    | none => exact ⟨0, by omega, fun i hi => absurd hi (by omega), h0⟩
    | some x =>
      obtain ⟨k, h1, h2, h3⟩ := isR_ex g m (rd + 1) (by rw [← h]; congr 1; omega)
      refine ⟨k + 1, by omega, fun i hi => ?_, by rw [← h3]; congr 1; omega⟩
      cases i with
      | zero => rw [Nat.add_zero, h0]; rfl
      | succ j => have := h2 j (by omega); rw [show rd + (j + 1) = rd + 1 + j by omega]; exact this
theorem BS.ok.ready {S : BS} (h : S.ok) : ∃ k, S.rd + k ≤ S.hi ∧ IsR S.g S.rd k := by
  obtain ⟨k, h1, h2⟩ := isR_ex S.g (S.hi - S.rd) S.rd (h.no _ (by have := h.rh; omega))
  exact ⟨k, by have := h.rh; omega, h2⟩
theorem IsR.uniq {g : Nat → Option Int} {rd k j : Nat} (h : IsR g rd k) (h' : IsR g rd j) : k = j := by
  rcases Nat.lt_trichotomy k j with hl | rfl | hl
  · have := h'.1 k hl
    rw [h.2] at this
    cases this
  · rfl
  · have := h.1 j hl
    rw [h'.2] at this
    cases this
theorem IsR.le {S : BS} {k : Nat} (h : S.ok) (h' : IsR S.g S.rd k) : S.rd + k ≤ S.hi := by
  obtain ⟨j, h1, h2⟩ := h.ready
  rw [h'.uniq h2]
  exact h1
/-- The program's ranges and bytes keep what came from rd on. -/
structure Pm (rd : Nat) (l : RL) (W : List Int) (g : Nat → Option Int) : Prop where
  gd : Gd l
  rng : ∀ r ∈ l, (rd : Int) ≤ r.1 ∧ r.2 ≤ rd + W.length
  wl : W.length ≤ 2048
  has : ∀ n : Nat, rd ≤ n → hasL l n = (g n).isSome
  byt : ∀ (n : Nat) x, rd ≤ n → g n = some x → W[n - rd]? = some x
theorem gd_len : ∀ (l : RL) (lo hi : Int), Gd l → (∀ r ∈ l, lo ≤ r.1 ∧ r.2 ≤ hi) → lo ≤ hi + 1 → (l.length : Int) * 2 ≤ hi + 1 - lo
  | [], lo, hi, _, _, h => by simp; omega
  | r :: t, lo, hi, hg, hb, h => by
    have h' := gd_cons.1 hg
    have h1 := hb r (List.mem_cons_self ..)
    have h2 := h'.1
    unfold OkR at h2
    have ih := gd_len t (lo + 2) hi h'.2.1 (fun s hs => ⟨by have := h'.2.2 s hs; omega, (hb s (List.mem_cons_of_mem _ hs)).2⟩) (by omega)
    rw [List.length_cons]
    omega
theorem Pm.len {rd : Nat} {l : RL} {W : List Int} {g : Nat → Option Int} (h : Pm rd l W g) : l.length ≤ 1024 := by
  have := gd_len l rd (rd + W.length) h.gd h.rng (by omega)
  have := h.wl
  omega
theorem gapE_spec : ∀ (l : RL) (a to : Int), gapE l a to ≤ to ∧ (∀ r ∈ l, a < r.1 → gapE l a to ≤ r.1) ∧ (a < to → a < gapE l a to)
  | [], a, to => ⟨Int.le_refl _, fun r h => (by cases h), fun h => h⟩
  | r :: t, a, to => by
    have e : gapE (r :: t) a to = gapE t a (if a < r.1 then min to r.1 else to) := rfl
    obtain ⟨h1, h2, h3⟩ := gapE_spec t a (if a < r.1 then min to r.1 else to)
    rw [e]
    generalize gapE t a (if a < r.1 then min to r.1 else to) = E at *
    by_cases hc : a < r.1
    · rw [if_pos hc] at h1 h3
      refine ⟨by omega, fun s hs hl => ?_, fun h => h3 (by omega)⟩
      rcases List.mem_cons.1 hs with rfl | hs
      · omega
      · exact h2 s hs hl
    · rw [if_neg hc] at h1 h3
      refine ⟨h1, fun s hs hl => ?_, h3⟩
      rcases List.mem_cons.1 hs with rfl | hs
      · exact absurd hl hc
      · exact h2 s hs hl
theorem gapF_spec {l : RL} (hg : Gd l) (f : Int) : f ≤ gapF l f ∧ (∀ n, f ≤ n → n < gapF l f → hasL l n = true) ∧ hasL l (gapF l f) = false := by
  obtain ⟨A, B, e, ha, hb⟩ := split_at (fun r => decide (f < r.2)) l (hg.mono _ fun a b h1 h2 h3 h4 => by unfold OkR at *; simp at *; omega)
  have ha' : ∀ r ∈ A, r.2 ≤ f := fun r hr => by have := ha r hr; simp at this; exact this
  have hb' : ∀ r ∈ B, f < r.2 := fun r hr => by have := hb r hr; simpa using this
  have hga := gap_at hg e ha' hb'
  have hat := has_at hg e ha' hb'
  cases B with
  | nil =>
    obtain ⟨h1, h2⟩ : gapF l f = f ∧ ∀ to, gapE l f to = to := hga
    rw [h1]
    exact ⟨Int.le_refl _, fun n h h' => by omega, hat⟩
  | cons r t =>
    obtain ⟨hA, hB⟩ : (r.1 ≤ f → gapF l f = r.2 ∧ ∀ to, gapE l r.2 to = minHead t to) ∧ (f < r.1 → gapF l f = f ∧ ∀ to, gapE l f to = min to r.1) := hga
    have hgr := gd_cons.1 (gd_app.1 (e ▸ hg)).2.1
    have hr := hb' r (List.mem_cons_self ..)
    by_cases hrf : r.1 ≤ f
    · rw [(hA hrf).1]
      refine ⟨by omega, fun n h h' => ?_, ?_⟩
      · rw [has_true]
        exact ⟨r, by rw [e]; exact List.mem_append_right _ (List.mem_cons_self ..), by omega, h'⟩
      · have hat2 := has_at (n := r.2) (A := A ++ [r]) (B := t) hg (by rw [e]; simp) (fun x hx => by
          rcases List.mem_append.1 hx with hx | hx
          · have := ha' x hx; omega
          · rw [List.mem_singleton] at hx
            subst hx
            omega) (fun x hx => by
          have h1 := hgr.2.2 x hx
          have h2 := hgr.2.1.1 x hx
          unfold OkR at h2
          omega)
        rw [hat2]
        cases t with
        | nil => rfl
        | cons s u =>
          have := hgr.2.2 s (List.mem_cons_self ..)
          show decide (s.1 ≤ r.2) = false
          simp
          omega
    · rw [(hB (by omega)).1]
      refine ⟨Int.le_refl _, fun n h h' => by omega, ?_⟩
      rw [hat]
      show decide (r.1 ≤ f) = false
      simp
      omega
/-- What Gap answers, in words. -/
theorem gap_cases {l : RL} (hg : Gd l) (f to : Nat) :
    (gapV l f to = #[.agg #[.int .u64 0, .int .u64 0], .bool false] ∧ ∀ n : Nat, f ≤ n → n < to → hasL l n = true) ∨
    ∃ a e : Nat, gapV l f to = #[.agg #[.int .u64 a, .int .u64 e], .bool true] ∧ f ≤ a ∧ a < e ∧ e ≤ to ∧ (∀ n : Nat, f ≤ n → n < a → hasL l n = true) ∧ (∀ n : Nat, a ≤ n → n < e → hasL l n = false) := by
  obtain ⟨h1, h2, h3⟩ := gapF_spec hg f
  obtain ⟨k1, k2, k3⟩ := gapE_spec l (gapF l f) to
  unfold gapV
  split
  · rename_i h
    exact .inl ⟨rfl, fun n hn hn' => h2 n (by omega) (by omega)⟩
  · rename_i h
    right
    obtain ⟨a, ha⟩ : ∃ a : Nat, gapF l f = (a : Int) := ⟨(gapF l f).toNat, by omega⟩
    rw [ha] at h1 h2 h3 k1 k2 k3 h ⊢
    have k3' := k3 (by omega)
    obtain ⟨e, he⟩ : ∃ e : Nat, gapE l a to = (e : Int) := ⟨(gapE l a to).toNat, by omega⟩
    rw [he] at k1 k2 k3' ⊢
    clear k3
    refine ⟨a, e, rfl, by omega, by omega, by omega, fun n hn hn' => h2 n (by omega) (by omega), fun n hn hn' => ?_⟩
    cases hh : hasL l n with
    | false => rfl
    | true =>
      obtain ⟨r, hr, hr1, hr2⟩ := has_true.1 hh
      by_cases hc : (a : Int) < r.1
      · have := k2 r hr hc
        omega
      · have : hasL l a = true := has_true.2 ⟨r, hr, by omega, by omega⟩
        rw [h3] at this
        cases this
end
section
set_option linter.unusedVariables false
set_option linter.unusedSimpArgs false
theorem gd_count : ∀ {l : RL}, Gd l → ∀ {a c : Int}, (∀ r ∈ l, a ≤ r.1 ∧ r.2 ≤ c) → 2 * (l.length : Int) ≤ max 0 (c - a + 1)
  | [], _, a, c, _ => by simp; omega
  | r :: t, hg, a, c, h => by
    obtain ⟨h1, h2, h3⟩ := gd_cons.1 hg
    unfold OkR at h1
    have hr := h r (List.mem_cons_self ..)
    have := gd_count h2 (a := r.2 + 1) (c := c) fun s hs => by
      have := h3 s hs
      have := h s (List.mem_cons_of_mem _ hs)
      omega
    rw [List.length_cons]
    omega
/-- Ranges of numbers from a on, below c. -/
theorem says_len {l : RL} (hg : Gd l) {a c : Nat} (hac : a ≤ c) (h : ∀ j : Nat, hasL l j = true → a ≤ j ∧ j < c) : 2 * l.length ≤ c - a + 1 := by
  have := gd_count hg (a := a) (c := c) fun r hr => by
    have ho := hg.1 r hr
    unfold OkR at ho
    have h1 := h r.1.toNat (has_true.2 ⟨r, hr, by omega, by omega⟩)
    have h2 := h (r.2 - 1).toNat (has_true.2 ⟨r, hr, by omega, by omega⟩)
    omega
  omega
section
variable {S : OS} {la ll : RL}
theorem base_ak (S : OS) {j : Nat} (h : j < baseO S) : S.ak j = true := by
  have := runF_all S.ak S.bs.length 0 j h
  rwa [Nat.zero_add] at this
theorem not_ak {j : Nat} (h : S.ak j = false) : baseO S ≤ j := by
  rcases Nat.lt_or_ge j (baseO S) with hl | hl
  · rw [base_ak S hl] at h; cases h
  · exact hl
theorem gn_base {S : OS} (h : S.ok) : baseO S ≤ S.gn ∧ S.gn ≤ S.bs.length ∧ S.bs.length - baseO S ≤ 2048 := ⟨baseO_gn h, h.gl, by have := h.rm; omega⟩
/-- Ranges of what was sent and is not acknowledged are few. -/
theorem few {S : OS} (h : S.ok) {l : RL} (hg : Gd l) (hl : ∀ j : Nat, hasL l j = true → S.ak j = false ∧ j < S.gn) : l.length ≤ 1024 := by
  have hb := gn_base h
  have := says_len hg hb.1 fun j hj => ⟨not_ak (hl j hj).1, (hl j hj).2⟩
  omega
theorem Sa.ll_few (hy : Sa S la ll) (h : S.ok) : ll.length ≤ 1024 := few h hy.gl fun j hj => by
  rw [hy.yl] at hj
  exact ⟨(h.kg j hj).2, (h.kg j hj).1⟩
theorem Sa.la_few (hy : Sa S la ll) (h : S.ok) : la.length ≤ 1025 := by
  cases hla : la with
  | nil => simp
  | cons r t =>
    have hg := hy.ga
    have hs := hy.ya
    rw [hla] at hg hs
    obtain ⟨h1, h2, h3⟩ := gd_cons.1 hg
    obtain ⟨k1, k2, k3⟩ := says_head hg hs
    unfold OkR at h1
    have hb := gn_base h
    have := says_len h2 hb.1 fun j hj => by
      have hj1 : S.ak j = true := by rw [← hs j, has_cons, hj, Bool.or_true]
      refine ⟨?_, h.ka j hj1⟩
      obtain ⟨s, hm, h4, h5⟩ := has_true.1 hj
      have h6 := h3 s hm
      have h7 := not_ak (S := S) (k3 r.2.toNat (by omega))
      omega
    rw [List.length_cons]
    omega
theorem Sa.cut_len (hy : Sa S la ll) (h : S.ok) (lo hi : Nat) : hi ≤ lo ∨ ((ll.flatMap (cutP lo hi)).length : Int) ≤ 2048 := by
  rcases Nat.lt_or_ge lo hi with hl | hl
  · right
    have := few h (cut_gd lo hi (by omega) ll hy.gl) fun j hj => by
      rw [has_flat lo hi (by omega), Bool.and_eq_true, hy.yl] at hj
      exact ⟨(h.kg j hj.1).2, (h.kg j hj.1).1⟩
    omega
  · exact .inl hl
theorem Sa.has_cut (hy : Sa S la ll) (h : S.ok) (lo hi j : Nat) : hasL (cutL ll lo hi 2048) j = (S.ag j && !(decide (lo ≤ j) && decide (j < hi))) := by
  rw [has_cutL (by rcases hy.cut_len h lo hi with k | k; exact .inl (by omega); exact .inr k), hy.yl]
  simp
theorem nextO_eq {most limit : Nat} {lo n : Nat} {fin : Bool} (h : nextR S most limit = ⟨lo, n, fin, true⟩) : nextO S most limit = sentO S lo n fin := by unfold nextO; rw [h]
theorem Sa.sent (hy : Sa S la ll) (h : S.ok) {lo hi : Nat} (hl : lo ≤ hi) (fin : Bool) : Sa (sentO S lo (hi - lo) fin) la (cutL ll lo hi 2048) := by
  refine ⟨hy.ga, cutL_gd hy.gl _ _ _, hy.ya, fun j => ?_⟩
  rw [hy.has_cut h]
  show _ = (S.ag j && !(decide (lo ≤ j) && decide (j < lo + (hi - lo))))
  rw [show lo + (hi - lo) = hi by omega]
theorem inT_told (S : OS) (off : Nat) (n : Int) (j : Nat) : inT S off n.toNat j = (decide (tLo S.gn off ≤ j) && decide (j < tHi S.gn off n)) := by
  unfold inT tHi tLo
  rw [Bool.eq_iff_iff]
  simp only [Bool.and_eq_true, decide_eq_true_eq]
  omega
theorem has_add {l : RL} (hg : Gd l) (hl : l.length ≤ 2000) {lo hi : Nat} (hh : hi ≤ 1099511627776) (j : Nat) : hasL (addV l lo hi 2048) j = (hasL l j || (decide (lo ≤ j) && decide (j < hi))) := by
  rw [has_addV hg (by omega) (by have := addGo_len l ((lo : Int), (hi : Int)) false; omega)]
  simp
theorem Sa.acked (hy : Sa S la ll) (h : S.ok) (hL : S.bs.length ≤ 1099511627776) (off : Nat) (n : Int) (fin : Bool) :
    Sa (ackO S off n.toNat fin) (addV la (tLo S.gn off) (tHi S.gn off n) 2048) (cutL ll (tLo S.gn off) (tHi S.gn off n) 2048) := by
  have hf := hy.la_few h
  have ht := tHi_le S.gn off n
  have hg := h.gl
  refine ⟨addV_gd hy.ga _ _ _ (by omega), cutL_gd hy.gl _ _ _, fun j => ?_, fun j => ?_⟩
  · rw [has_add hy.ga (by omega) (by omega), hy.ya]
    show _ = (S.ak j || inT S off n.toNat j)
    rw [inT_told]
  · rw [hy.has_cut h]
    show _ = (S.ag j && !inT S off n.toNat j)
    rw [inT_told]
/-- Lost up to f. -/
def lostT (S : OS) (lo f : Nat) (j : Nat) : Bool := S.ag j || (decide (lo ≤ j) && decide (j < f) && !S.ak j)
theorem lostT_start (S : OS) (lo j : Nat) : lostT S lo lo j = S.ag j := by
  unfold lostT
  have : (decide (lo ≤ j) && decide (j < lo)) = false := by simp
  rw [this]
  simp
theorem lostT_few {S : OS} (h : S.ok) {l : RL} (hg : Gd l) {lo f : Nat} (hf : f ≤ S.gn) (hs : Says l (lostT S lo f)) : l.length ≤ 1024 := few h hg fun j hj => by
  rw [hs] at hj
  unfold lostT at hj
  rcases (Bool.or_eq_true _ _).mp hj with k | k
  · exact ⟨(h.kg j k).2, (h.kg j k).1⟩
  · simp only [Bool.and_eq_true, decide_eq_true_eq] at k
    exact ⟨by simpa using k.2, by omega⟩
/-- A gap among what is acknowledged is lost too. -/
theorem lostT_gap {S : OS} (h : S.ok) (hL : S.bs.length ≤ 1099511627776) {la l : RL} (hya : Says la S.ak) (hg : Gd l) {lo f a e hi : Nat} (hlf : lo ≤ f) (hs : Says l (lostT S lo f)) (hfa : f ≤ a) (hae : a < e) (heh : e ≤ hi) (hhi : hi ≤ S.gn)
    (h1 : ∀ n : Nat, f ≤ n → n < a → hasL la n = true) (h2 : ∀ n : Nat, a ≤ n → n < e → hasL la n = false) : Gd (addV l a e 2048) ∧ Says (addV l a e 2048) (lostT S lo e) := by
  have hgl := h.gl
  have hl := lostT_few h hg (by omega) hs
  refine ⟨addV_gd hg _ _ _ (by omega), fun j => ?_⟩
  rw [has_add hg (by omega) (by omega), hs]
  unfold lostT
  cases S.ag j with
  | true => rfl
  | false =>
    rw [Bool.false_or, Bool.false_or, Bool.eq_iff_iff]
    simp only [Bool.or_eq_true, Bool.and_eq_true, decide_eq_true_eq, Bool.not_eq_true']
    constructor
    · rintro (⟨⟨k1, k2⟩, k3⟩ | ⟨k1, k2⟩)
      · exact ⟨⟨k1, by omega⟩, k3⟩
      · exact ⟨⟨by omega, k2⟩, by rw [← hya]; exact h2 j k1 k2⟩
    · rintro ⟨⟨k1, k2⟩, k3⟩
      rcases Nat.lt_or_ge j f with k | k
      · exact .inl ⟨⟨k1, k⟩, k3⟩
      · rcases Nat.lt_or_ge j a with k' | k'
        · have := h1 j k k'
          rw [hya, k3] at this
          cases this
        · exact .inr ⟨k', k2⟩
/-- All the rest is acknowledged. -/
theorem lostT_end {S : OS} {la l : RL} (hya : Says la S.ak) {off : Nat} {n : Int} {f : Nat} (hlf : tLo S.gn off ≤ f) (hfh : f ≤ tHi S.gn off n) (hs : Says l (lostT S (tLo S.gn off) f)) (h1 : ∀ m : Nat, f ≤ m → m < tHi S.gn off n → hasL la m = true) (fin : Bool) : Says l (lostO S off n.toNat fin).ag := fun j => by
  rw [hs]
  show _ = (S.ag j || (inT S off n.toNat j && !S.ak j))
  rw [inT_told]
  unfold lostT
  cases S.ag j with
  | true => rfl
  | false =>
    rw [Bool.false_or, Bool.false_or, Bool.eq_iff_iff]
    simp only [Bool.and_eq_true, decide_eq_true_eq, Bool.not_eq_true']
    constructor
    · rintro ⟨⟨k1, k2⟩, k3⟩
      exact ⟨⟨k1, by omega⟩, k3⟩
    · rintro ⟨⟨k1, k2⟩, k3⟩
      rcases Nat.lt_or_ge j f with k | k
      · exact ⟨⟨k1, k⟩, k3⟩
      · have := h1 j k k2
        rw [hya, k3] at this
        cases this
/-- The new base: what Gap of the acknowledged tells from the old one on. -/
theorem base_gap {S : OS} (h : S.ok) {la : RL} (hg : Gd la) (hya : Says la S.ak) {b : Nat} (hb : ∀ j, j < b → S.ak j = true) (hbg : b ≤ S.gn) :
    (gapV la b S.gn = #[.agg #[.int .u64 0, .int .u64 0], .bool false] ∧ baseO S = S.gn) ∨ ∃ e : Nat, gapV la b S.gn = #[.agg #[.int .u64 (baseO S), .int .u64 e], .bool true] := by
  have hgl := h.gl
  rcases gap_cases hg b S.gn with ⟨hV, hall⟩ | ⟨a, e, hV, hfa, hae, heE, hall, hnone⟩
  · refine .inl ⟨hV, runF_is hgl (fun j hj => ?_) fun hl => ?_⟩
    · rw [Nat.zero_add]
      rcases Nat.lt_or_ge j b with k | k
      · exact hb j k
      · rw [← hya]
        exact hall j k hj
    · rw [Nat.zero_add]
      cases ha : S.ak S.gn with
      | false => rfl
      | true => have := h.ka _ ha; omega
  · have hba : baseO S = a := runF_is (by omega) (fun j hj => by
      rw [Nat.zero_add]
      rcases Nat.lt_or_ge j b with k | k
      · exact hb j k
      · rw [← hya]
        exact hall j k hj) fun hl => by
      rw [Nat.zero_add, ← hya]
      exact hnone a (Nat.le_refl _) hae
    rw [hba]
    exact .inr ⟨e, hV⟩
/-- What ahead tells is what Next takes from. -/
theorem next_ah {S : OS} (hok : S.ok) {la ll : RL} (hy : Sa S la ll) (most limit : Nat) : ∃ lo hi : Nat, ∃ ok : Bool, ahO S ll limit = (((lo : Int), (hi : Int)), ok) ∧ lo ≤ hi ∧ hi ≤ S.bs.length ∧
    ((ok = false ∨ (most = 0 ∧ lo < hi)) → nextR S most limit = ⟨0, 0, false, false⟩) ∧
    (ok = true → (0 < most ∨ lo = hi) → nextR S most limit = ⟨lo, min hi (lo + most) - lo, decide (min hi (lo + most) = S.bs.length) && endO S, true⟩) ∧ (ok = true → baseO S ≤ lo) ∧ (ok = true → lo = hi → lo ≤ S.gn) := by
  have hb := gn_base hok
  cases hll : ll with
  | cons r t =>
    have hg := hy.gl
    have hs := hy.yl
    rw [hll] at hg hs
    have h1 := hg.1 r (List.mem_cons_self ..)
    unfold OkR at h1
    obtain ⟨i, hi⟩ : ∃ i : Nat, (i : Int) = r.1 := ⟨r.1.toNat, by omega⟩
    obtain ⟨k, hk⟩ : ∃ k : Nat, (k : Int) = r.2 := ⟨r.2.toNat, by omega⟩
    obtain ⟨f1, f2, f3⟩ := says_first hok hg hs hi hk
    have ff := says_from hok hg hs hi hk most limit
    obtain ⟨k1, k2, k3⟩ := says_head hg hs
    refine ⟨i, k, true, ?_, by omega, by omega, ?_, ?_, fun _ => not_ak (hok.kg i (k2 i (by omega) (by omega))).2, fun _ e => by omega⟩
    · show (r, true) = _
      rw [hi, hk]
    · rintro (h | ⟨h, _⟩)
      · cases h
      · unfold nextR
        rw [ff, f1]
        rw [h]
        simp
        omega
    · intro _ hm
      unfold nextR
      rw [ff]
      dsimp only
      rw [if_neg (by omega), show min k (i + most) = i + min most (k - i) by omega]
  | nil =>
    have hs := hy.yl
    rw [hll] at hs
    have ff := says_from_nil hs most limit
    have f1 := says_first_nil hs
    by_cases hc : S.gn < min limit S.bs.length
    · refine ⟨S.gn, min limit S.bs.length, true, by unfold ahO; simp only [if_pos hc], by omega, by omega, ?_, ?_, fun _ => hb.1, fun _ e => by omega⟩
      · rintro (h | ⟨h, _⟩)
        · cases h
        · unfold nextR
          rw [ff, f1, h, if_pos (by omega), if_neg (by omega)]
      · intro _ hm
        unfold nextR
        rw [ff]
        dsimp only
        rw [if_neg (by omega), show max S.gn (min (min S.bs.length limit) (S.gn + most)) = min (min limit S.bs.length) (S.gn + most) by omega]
    · by_cases he : (endO S && decide (S.gn = S.bs.length)) = true
      · have he' := he
        rw [Bool.and_eq_true, decide_eq_true_eq] at he'
        refine ⟨S.bs.length, S.bs.length, true, by unfold ahO; simp only [if_neg hc, if_pos he], by omega, by omega, ?_, ?_, fun _ => by omega, fun _ _ => by omega⟩
        · rintro (h | ⟨h, h2⟩)
          · cases h
          · omega
        · intro _ _
          unfold nextR
          rw [ff, f1, if_pos (by omega), if_pos ⟨rfl, he'.2, he'.1⟩, he'.1, Nat.min_eq_left (by omega)]
          simp
      · refine ⟨0, 0, false, by unfold ahO; simp only [if_neg hc, if_neg he]; rfl, by omega, by omega, ?_, fun h => (by cases h), fun h => (by cases h), fun h => (by cases h)⟩
        intro _
        unfold nextR
        rw [ff, f1, if_pos (by omega), if_neg]
        rintro ⟨_, h2, h3⟩
        rw [h3, h2] at he
        simp at he
end
end
section
set_option linter.unusedVariables false
set_option linter.unusedSimpArgs false
open Go.RowKit
section
variable {w : World} {base p : Nat} {O : Nat → Prop} {S : OS}
set_option maxHeartbeats 4000000 in
set_option maxRecDepth 100000 in
theorem owrite_any (h : Of w base p O S) (hok : S.ok) (hb : base ≤ w.heap.size) (A : Option Addr) (n c : Nat) (bs : List Int) (hr : Rd w w.heap.size A n bs) (hnc : n ≤ c) (hn : n < 9223372036854775808) (hcm : c < 9223372036854775808) :
    Calls Tryz.prog 30 #[.pointer (some ⟨p, 0, none⟩), .slice A n c] w (OfPost (.int .i64 (writeN S n)) base p O (writeO S bs) w) := by
  have HRM := Lib.hid (oroom_any h hok)
  obtain ⟨pa, pl, va, vl, vw, la, ll, rfl, hO, hy⟩ := h
  obtain ⟨N, hN⟩ : ∃ N, N = writeN S n := ⟨_, rfl⟩
  have hmn : (if (roomO S : Int) < (n : Int) then (roomO S : Int) else (n : Int)) = (N : Int) := by
    rw [hN]; unfold writeN; split <;> omega
  have hNn : N ≤ n := by rw [hN]; exact Nat.min_le_left _ _
  have hNR : N ≤ roomO S := by rw [hN]; exact Nat.min_le_right _ _
  have hR : roomO S ≤ 2048 := by unfold roomO; split <;> omega
  have HN := Lib.hid hN
  rw [← hN]
  clear hN
  have hlen := hr.1
  have HFIN : Hid (∀ (w5 : World) (v' : Value), Ow w5 base 5 v' ((S.bs.drop (baseO S)).map (Value.int .u8) ++ (bs.take N).map (Value.int .u8)) → w.drew.grownBy w5 vw.ownBlock → (v'.ownBlock = vw.ownBlock ∨ v'.ownBlock = some w.drew.heap.size) →
      OfPost (.int .i64 N) base p (oO p pa pl va vl vw) (writeO S bs) w (.returned (.int .i64 N)) (w5.setCell ⟨p, 1, none⟩ v') ∧ At w5 p 75 [.int .u64 (baseO S), vw, .int .u64 S.gn, .pointer (some ⟨pa, 0, none⟩), .pointer (some ⟨pl, 0, none⟩), .bool S.ov, .bool (endO S), .bool S.en, .bool S.ea]) := Lib.hid (fun w5 v' how hg hv => by
    have hk : Kept (fun b => vw.ownBlock = some b) w w5 := (grown_kept hg).from_drew
    rw [← List.map_append] at how
    have hbyt : Byt (S.bs.drop (baseO S) ++ bs.take N) := hO.own.2.app (hr.2.1.take N)
    obtain ⟨k1, k2, k3⟩ := hO.waits (ow_own how hbyt) hk fun j hj => by
      rcases hv with e | e
      · exact .inl (by rw [← e]; exact hj)
      · rw [e] at hj
        injection hj with hj
        right
        rw [← hj]
        exact Nat.le_refl _
    refine ⟨⟨rfl, _, ⟨pa, pl, va, vl, v', la, ll, rfl, ?_, ⟨hy.ga, hy.gl, hy.ya, hy.yl⟩⟩, k2, k3⟩, hO.at_.kept hk fun e => ?_⟩
    · have hwb := writeO_base hok bs
      rw [hwb]
      have e : (writeO S bs).bs.drop (baseO S) = S.bs.drop (baseO S) ++ bs.take N := by
        show (S.bs ++ bs.take (writeN S bs.length)).drop _ = _
        rw [List.drop_append_of_le_length (baseO_le S), hlen, HN.out]
      rw [e]
      exact k1
    · exact hO.ne (i := 5) (j := 0) (k := p) (k' := p) (by rw [← e]; rfl) rfl (by omega) rfl)
  have how := own_ow hO.own
  have h1 := hO.c1
  obtain ⟨Aw, cw, hvw, _, hcw, _⟩ := ow_open how
  have hsrc := rd_src (hr.cutTo hNn)
  have h1b := oneCell_u8 (bs.take N)
  have hlt : ((bs.take N).map (Value.int .u8)).length = N := by simp; omega
  have hwl : ((S.bs.drop (baseO S)).map (Value.int .u8)).length ≤ 2048 := by
    have := hok.rm
    simp
    omega
  clear hO hy hr hok
  have hr8 : roomO S < 9223372036854775808 := by omega
  generalize hxs : (bs.take N).map (Value.int .u8) = xs at *
  generalize hWs : (S.bs.drop (baseO S)).map (Value.int .u8) = Ws at *
  have HOW := Lib.hid how
  clear hxs hWs
  obtain ⟨m, hm⟩ : ∃ m, Ws.length = m := ⟨_, rfl⟩
  rw [hm] at hvw
  have HM := Lib.hid hm
  generalize roomO S = R at *
  have hNcz : (N : Int) ≤ (c : Int) := by omega
  have hNn8 : N < 9223372036854775808 := by omega
  subst hvw
  rw [hm] at hwl
  clear hm how
  have hb' : base ≤ w.drew.heap.size := hb
  obtain ⟨L, hLL⟩ : ∃ L, (Ws ++ xs).length = L := ⟨_, rfl⟩
  have HLL := Lib.hid hLL
  clear hLL
  have mixed : Tryz.prog.follows .mixedOrders = true := by kernel_rfl
  rcases Nat.lt_or_ge R n with hc | hc
  · obtain rfl : N = R := by omega
    have hcz : (N : Int) < (n : Int) := by omega
    go_enter Tryz.func30, Tryz.ntmps30
    go_wp2_with (go_at_call 29; (with_reducible refine HRM.out.mono ?_); rintro e w2 ⟨rfl, hw2⟩; rw [hw2]; clear hw2)
    go_region_law_o (refine step_app1 o8 rfl (.tmp 15) (.tmp 18) rfl base (.slice Aw m cw) Ws (by simp [Act.eval, Act.put]) HOW.out A N c (by simp [Act.eval, Act.put]) xs hlt hsrc h1b (by have := HM.out; omega) hb' ?_; intro v5 w5 hown5 hg5 hv5 _; obtain ⟨q1, q2⟩ := HFIN.out w5 v5 hown5 hg5 hv5; obtain ⟨A5, c5, e5, _, _, _⟩ := ow_open hown5; rw [HLL.out] at e5; subst e5; have e1 : w5.cell? ⟨p, 1, none⟩ = some (.slice Aw m cw) := (by rw [q2.cell]; rfl); have f1 := q2.frozen 1; have HQ := Lib.hid q1; clear q1 q2 hown5 hg5 hv5)
    all_goals go_wp2
    all_goals go_ret
    all_goals exact HQ.out
  · obtain rfl : N = n := by omega
    have hcz : ¬ (R : Int) < (N : Int) := by omega
    go_enter Tryz.func30, Tryz.ntmps30
    go_wp2_with (go_at_call 29; (with_reducible refine HRM.out.mono ?_); rintro e w2 ⟨rfl, hw2⟩; rw [hw2]; clear hw2)
    go_region_law_o (refine step_app1 o8 rfl (.tmp 15) (.tmp 18) rfl base (.slice Aw m cw) Ws (by simp [Act.eval, Act.put]) HOW.out A N c (by simp [Act.eval, Act.put]) xs hlt hsrc h1b (by have := HM.out; omega) hb' ?_; intro v5 w5 hown5 hg5 hv5 _; obtain ⟨q1, q2⟩ := HFIN.out w5 v5 hown5 hg5 hv5; obtain ⟨A5, c5, e5, _, _, _⟩ := ow_open hown5; rw [HLL.out] at e5; subst e5; have e1 : w5.cell? ⟨p, 1, none⟩ = some (.slice Aw m cw) := (by rw [q2.cell]; rfl); have f1 := q2.frozen 1; have HQ := Lib.hid q1; clear q1 q2 hown5 hg5 hv5)
    all_goals go_wp2
    all_goals go_ret
    all_goals exact HQ.out
end
/-- What drop leaves: t is the new base. -/
def DPost (base p pa pl : Nat) (va vl vw : Value) (la ll : RL) (W : List Int) (t gn : Nat) (ov du en ea : Bool) (w : World) (e : Ending) (w' : World) : Prop :=
  e = .returned (.tuple #[]) ∧ ∃ vw', Om w' base p pa pl va vl vw' la ll W t gn ov du en ea ∧ Kept (oO p pa pl va vl vw) w w' ∧ ∀ j, oO p pa pl va vl vw' j → oO p pa pl va vl vw j ∨ w.heap.size ≤ j
set_option maxHeartbeats 4000000 in
set_option maxRecDepth 100000 in
theorem odrop_any {w : World} {base p pa pl : Nat} {va vl vw : Value} {la ll : RL} {W : List Int} {b gn : Nat} {ov du en ea : Bool} (h : Om w base p pa pl va vl vw la ll W b gn ov du en ea) (hb : base ≤ w.heap.size) (hg : Gd la) (hn : la.length ≤ 2000000) (hgn : gn ≤ 1099511627776) (hW : W.length ≤ 2048) (t : Nat) (hbt : b ≤ t) (htW : t - b ≤ W.length) (htg : t ≤ gn)
    (ht : (gapV la b gn = #[.agg #[.int .u64 0, .int .u64 0], .bool false] ∧ t = gn) ∨ ∃ e : Nat, gapV la b gn = #[.agg #[.int .u64 t, .int .u64 e], .bool true]) :
    Calls Tryz.prog 54 #[.pointer (some ⟨p, 0, none⟩)] w (DPost base p pa pl va vl vw la ll (W.drop (t - b)) t gn ov du en ea w) := by
  have HGB : Hid (Calls Tryz.prog 55 #[.pointer (some ⟨pa, 0, none⟩), .int .u64 b, .int .u64 gn] w.drew fun e w' => e = .returned (.tuple (gapV la b gn)) ∧ Below w.heap.size w w') := Lib.hid ((gap_any' base pa 2048 va la w.drew h.drew.sa hn hg b gn).mono fun e w' hP => ⟨hP.1, (below_drewN (Below.refl _ w) 1).trans hP.2⟩)
  have hbA : Below w.heap.size w (w.alloc (.cells #[.int .u64 0, .int .u64 0] 89)).drew := ((Below.refl _ w).alloc (Nat.le_refl _) _).drew
  have HGA : Hid (Calls Tryz.prog 55 #[.pointer (some ⟨pa, 0, none⟩), .int .u64 b, .int .u64 gn] (w.alloc (.cells #[.int .u64 0, .int .u64 0] 89)).drew fun e w' => e = .returned (.tuple (gapV la b gn)) ∧ Below w.heap.size w w' ∧ At w' w.heap.size 89 [.int .u64 0, .int .u64 0]) := Lib.hid ((gap_any' base pa 2048 va la _ (h.below hbA).sa hn hg b gn).mono fun e w' hP => ⟨hP.1, hbA.trans (hP.2.mono hbA.size), ((At.new w 89 [.int .u64 0, .int .u64 0]).drew).below hP.2 (by show w.heap.size < (w.alloc _).heap.size; simp)⟩)
  have h0d : w.drew.cell? ⟨p, 0, none⟩ = some (.int .u64 b) := h.c0
  have h3d : w.drew.cell? ⟨p, 3, none⟩ = some (.pointer (some ⟨pa, 0, none⟩)) := h.c3
  have h0a : (w.alloc (.cells #[.int .u64 0, .int .u64 0] 89)).drew.cell? ⟨p, 0, none⟩ = some (.int .u64 b) := (h.below hbA).c0
  have h3a : (w.alloc (.cells #[.int .u64 0, .int .u64 0] 89)).drew.cell? ⟨p, 3, none⟩ = some (.pointer (some ⟨pa, 0, none⟩)) := (h.below hbA).c3
  have HYA : Hid (∀ w2, Below w.heap.size w w2 → At w2 w.heap.size 89 [.int .u64 0, .int .u64 0] → ∀ x y : Int, ∃ Y, Y = ((w2.setCell ⟨w.heap.size, 0, none⟩ (.int .u64 x)).setCell ⟨w.heap.size, 1, none⟩ (.int .u64 y)) ∧ Below w.heap.size w Y ∧ At Y w.heap.size 89 [.int .u64 x, .int .u64 y]) := Lib.hid (fun w2 hB hA x y => ⟨_, rfl, (hB.setCell (Nat.le_refl _) _).setCell (Nat.le_refl _) _, at_two hA _ _⟩)
  have HYB : Hid (∀ w2, Below w.heap.size w w2 → ∀ x y : Int, ∃ Y, Y = (w2.alloc (.cells #[.int .u64 x, .int .u64 y] 89)) ∧ Below w.heap.size w Y ∧ At Y w2.heap.size 89 [.int .u64 x, .int .u64 y]) := Lib.hid (fun w2 hB x y => ⟨_, rfl, hB.alloc hB.size _, At.new w2 _ _⟩)
  have mixed : Tryz.prog.follows .mixedOrders = true := by kernel_rfl
  have hl := h.lt
  have HO := Lib.hid h
  have hcc : Hid (∀ w2, Below w.heap.size w w2 → w2.cell? ⟨p, 0, none⟩ = some (.int .u64 b) ∧ w2.cell? ⟨p, 1, none⟩ = some vw ∧ w2.frozen? ⟨p, 1, none⟩ = false) := Lib.hid (fun w2 hB => ⟨(HO.out.below hB).c0, (HO.out.below hB).c1, (HO.out.below hB).at_.frozen 1⟩)
  have HD : Hid (∀ w2, Below w.heap.size w w2 → Calls Tryz.prog 70 #[vw, .int .i64 0, .int .i64 (t - b : Nat)] w2 fun e w' => ∃ v', e = .returned v' ∧ Own w' base 5 v' (W.drop (t - b)) ∧ Kept (fun b => vw.ownBlock = some b) w2 w' ∧ ∀ j, v'.ownBlock = some j → vw.ownBlock = some j) := Lib.hid (fun w2 hB => del8 base vw W (t - b) w2 ((HO.out.below hB).own) htW (by omega) (Nat.le_trans hb hB.size))
  have HF : Hid (∀ w2 w3 v', Below w.heap.size w w2 → Own w3 base 5 v' (W.drop (t - b)) → Kept (fun b => vw.ownBlock = some b) w2 w3 → (∀ j, v'.ownBlock = some j → vw.ownBlock = some j) →
      DPost base p pa pl va vl vw la ll (W.drop (t - b)) t gn ov du en ea w (.returned (.tuple #[])) ((w3.setCell ⟨p, 1, none⟩ v').setCell ⟨p, 0, none⟩ (.int .u64 t)) ∧ At w3 p 75 [.int .u64 b, vw, .int .u64 gn, .pointer (some ⟨pa, 0, none⟩), .pointer (some ⟨pl, 0, none⟩), .bool ov, .bool du, .bool en, .bool ea]) := Lib.hid (fun w2 w3 v' hB ho hk hv => by
    have h2 := HO.out.below hB
    obtain ⟨k1, k2, k3⟩ := h2.waits ho hk fun j hj => .inl (hv j hj)
    refine ⟨⟨rfl, v', k1.set_b t, ((Kept.of_below hB (oO p pa pl va vl vw)).trans' k2 fun j hj => .inl hj).setCell (.inl (oO_at (i := 0) rfl)) _, fun j hj => (k3 j hj).imp id fun k => Nat.le_trans hB.size k⟩, h2.at_.kept hk fun e => ?_⟩
    exact h2.ne (i := 5) (j := 0) (k := p) (k' := p) (by rw [← e]; rfl) rfl (by omega) rfl)
  have h2 := h.c2
  have h0 := h.c0
  have h3 := h.c3
  have hwl : ((W.length : Nat) : Int) ≤ 2048 := by omega
  obtain ⟨A, c, hvw, _, _, _⟩ := h.own.open_
  obtain ⟨D, hD⟩ : ∃ D, D = t - b := ⟨_, rfl⟩
  have hz : (t : Int) - (b : Int) = (D : Int) := by omega
  have hDb : D ≤ 2048 := by omega
  have hwD : IntKind.u64.wrap (D : Int) = (D : Int) := by rw [IntKind.wrap_u64]; omega
  have hwD2 : IntKind.i64.wrap (D : Int) = (D : Int) := by rw [IntKind.wrap_i64]; omega
  rw [← hD] at HD HF ⊢
  obtain ⟨N3, hN3⟩ : ∃ N3, (W.drop D).length = N3 := ⟨_, rfl⟩
  have HL3 := Lib.hid hN3
  subst hvw
  clear hD h hl hW hbA hN3
  rcases ht with ⟨hV, ht⟩ | ⟨e, hV⟩
  · subst ht
    rw [hV] at HGA HGB
    clear hV
    go_enter Tryz.func54, Tryz.ntmps54
    go_wp2
    go_region_law_o (go_simp; go_at_call 55; first
      | ((with_reducible refine HGA.out.mono ?_); rintro ez w2 ⟨rfl, hB2, hA2⟩; have d0 := hA2.cell 0; have d1 := hA2.cell 1; have f0 := hA2.frozen 0; have f1 := hA2.frozen 1; simp only [List.getElem?_cons_zero, List.getElem?_cons_succ] at d0 d1; have HY := Lib.hid (HYA.out w2 hB2 hA2 0 0); clear hB2 hA2)
      | ((with_reducible refine HGB.out.mono ?_); rintro ez w2 ⟨rfl, hB2⟩; have HY := Lib.hid (HYB.out w2 hB2 0 0); clear hB2))
    all_goals obtain ⟨Y, hYe, hYb, hYA⟩ := HY.out
    all_goals rw [← hYe]
    all_goals clear hYe HY
    all_goals obtain ⟨c0, c1, f1'⟩ := hcc.out _ hYb
    all_goals have r0 := hYA.cell 0
    all_goals simp only [List.getElem?_cons_zero] at r0
    all_goals have HYb := Lib.hid hYb
    all_goals clear hYb hYA
    all_goals go_wp2
    all_goals have c0d : Y.drew.cell? ⟨p, 0, none⟩ = some (.int .u64 b) := c0
    all_goals have c1d : Y.drew.cell? ⟨p, 1, none⟩ = some (.slice A W.length c) := c1
    all_goals have HDY := Lib.hid (HD.out Y.drew HYb.out.drew)
    all_goals go_region_law_o (go_simp; go_at_call 70; (with_reducible refine HDY.out.mono ?_); rintro ez w3 ⟨v3, rfl, ho3, hk3, hv3⟩; obtain ⟨q1, q2⟩ := HF.out Y.drew w3 v3 HYb.out.drew ho3 hk3 hv3; obtain ⟨A3, c3, rfl, _, _, _⟩ := ho3.open_n N3 HL3.out; have g1 : w3.cell? ⟨p, 1, none⟩ = some (.slice A W.length c) := (by rw [q2.cell]; rfl); have g2 := q2.frozen 1; have q3 := q2.set 1 (.slice A3 N3 c3); have g3 : (w3.setCell ⟨p, 1, none⟩ (.slice A3 N3 c3)).cell? ⟨p, 0, none⟩ = some (.int .u64 b) := (by rw [q3.cell]; rfl); have g4 := q3.frozen 0; have HQ := Lib.hid q1; clear q1 q2 q3 ho3 hk3 hv3)
    all_goals go_wp2
    all_goals go_end0
    all_goals exact HQ.out
  · rw [hV] at HGA HGB
    clear hV
    go_enter Tryz.func54, Tryz.ntmps54
    go_wp2
    go_region_law_o (go_simp; go_at_call 55; first
      | ((with_reducible refine HGA.out.mono ?_); rintro ez w2 ⟨rfl, hB2, hA2⟩; have d0 := hA2.cell 0; have d1 := hA2.cell 1; have f0 := hA2.frozen 0; have f1 := hA2.frozen 1; simp only [List.getElem?_cons_zero, List.getElem?_cons_succ] at d0 d1; have HY := Lib.hid (HYA.out w2 hB2 hA2 t e); clear hB2 hA2)
      | ((with_reducible refine HGB.out.mono ?_); rintro ez w2 ⟨rfl, hB2⟩; have HY := Lib.hid (HYB.out w2 hB2 t e); clear hB2))
    all_goals obtain ⟨Y, hYe, hYb, hYA⟩ := HY.out
    all_goals rw [← hYe]
    all_goals clear hYe HY
    all_goals obtain ⟨c0, c1, f1'⟩ := hcc.out _ hYb
    all_goals have r0 := hYA.cell 0
    all_goals simp only [List.getElem?_cons_zero] at r0
    all_goals have HYb := Lib.hid hYb
    all_goals clear hYb hYA
    all_goals go_wp2
    all_goals have c0d : Y.drew.cell? ⟨p, 0, none⟩ = some (.int .u64 b) := c0
    all_goals have c1d : Y.drew.cell? ⟨p, 1, none⟩ = some (.slice A W.length c) := c1
    all_goals have HDY := Lib.hid (HD.out Y.drew HYb.out.drew)
    all_goals go_region_law_o (go_simp; go_at_call 70; (with_reducible refine HDY.out.mono ?_); rintro ez w3 ⟨v3, rfl, ho3, hk3, hv3⟩; obtain ⟨q1, q2⟩ := HF.out Y.drew w3 v3 HYb.out.drew ho3 hk3 hv3; obtain ⟨A3, c3, rfl, _, _, _⟩ := ho3.open_n N3 HL3.out; have g1 : w3.cell? ⟨p, 1, none⟩ = some (.slice A W.length c) := (by rw [q2.cell]; rfl); have g2 := q2.frozen 1; have q3 := q2.set 1 (.slice A3 N3 c3); have g3 : (w3.setCell ⟨p, 1, none⟩ (.slice A3 N3 c3)).cell? ⟨p, 0, none⟩ = some (.int .u64 b) := (by rw [q3.cell]; rfl); have g4 := q3.frozen 0; have HQ := Lib.hid q1; clear q1 q2 q3 ho3 hk3 hv3)
    all_goals go_wp2
    all_goals go_end0
    all_goals exact HQ.out
end
end Go.Proofs.YtbejpafephofaaaGreat
