/-
  outbuf: what the ranges say behind each call; how many there are: mathematics alone.
-/
import Derived.Test.YtohahkjikhpamaaDf
import Derived.Test.YtohahkjikhpamaaIa
import Derived.Test.YtohahkjikhpamaaQk
namespace Go.Proofs.Ytohahkjikhpamaa
set_option linter.unusedVariables false
set_option linter.unusedSimpArgs false
theorem gd_count : ∀ {l : RL}, Gd l → ∀ {a c : Int}, (∀ r ∈ l, a ≤ r.1 ∧ r.2 ≤ c) → 2 * (l.length : Int) ≤ max 0 (c - a + 1)
  | [], _, a, c, _ => by simp; omega
  | r :: t, hg, a, c, h => by
    obtain ⟨h1, h2, h3⟩ := gd_cons.1 hg
    unfold OkR at h1
    have hr := h r (List.mem_cons_self ..)
    have := gd_count h2 (a := r.2 + 1) (c := c) fun s hs => by
      have := h3 s hs
      have := h s (List.mem_cons_of_mem _ hs)
      omega
    rw [List.length_cons]
    omega
/-- Ranges of numbers from a on, below c. -/
theorem says_len {l : RL} (hg : Gd l) {a c : Nat} (hac : a ≤ c) (h : ∀ j : Nat, hasL l j = true → a ≤ j ∧ j < c) : 2 * l.length ≤ c - a + 1 := by
  have := gd_count hg (a := a) (c := c) fun r hr => by
    have ho := hg.1 r hr
    unfold OkR at ho
    have h1 := h r.1.toNat (has_true.2 ⟨r, hr, by omega, by omega⟩)
    have h2 := h (r.2 - 1).toNat (has_true.2 ⟨r, hr, by omega, by omega⟩)
    omega
  omega
section
variable {S : OS} {la ll : RL}
theorem base_ak (S : OS) {j : Nat} (h : j < baseO S) : S.ak j = true := by
  have := runF_all S.ak S.bs.length 0 j h
  rwa [Nat.zero_add] at this
theorem not_ak {j : Nat} (h : S.ak j = false) : baseO S ≤ j := by
  rcases Nat.lt_or_ge j (baseO S) with hl | hl
  · rw [base_ak S hl] at h; cases h
  · exact hl
theorem gn_base {S : OS} (h : S.ok) : baseO S ≤ S.gn ∧ S.gn ≤ S.bs.length ∧ S.bs.length - baseO S ≤ 2048 := ⟨baseO_gn h, h.gl, by have := h.rm; omega⟩
/-- Ranges of what was sent and is not acknowledged are few. -/
theorem few {S : OS} (h : S.ok) {l : RL} (hg : Gd l) (hl : ∀ j : Nat, hasL l j = true → S.ak j = false ∧ j < S.gn) : l.length ≤ 1024 := by
  have hb := gn_base h
  have := says_len hg hb.1 fun j hj => ⟨not_ak (hl j hj).1, (hl j hj).2⟩
  omega
theorem Sa.ll_few (hy : Sa S la ll) (h : S.ok) : ll.length ≤ 1024 := few h hy.gl fun j hj => by
  rw [hy.yl] at hj
  exact ⟨(h.kg j hj).2, (h.kg j hj).1⟩
theorem Sa.la_few (hy : Sa S la ll) (h : S.ok) : la.length ≤ 1025 := by
  cases hla : la with
  | nil => simp
  | cons r t =>
    have hg := hy.ga
    have hs := hy.ya
    rw [hla] at hg hs
    obtain ⟨h1, h2, h3⟩ := gd_cons.1 hg
    obtain ⟨k1, k2, k3⟩ := says_head hg hs
    unfold OkR at h1
    have hb := gn_base h
    have := says_len h2 hb.1 fun j hj => by
      have hj1 : S.ak j = true := by rw [← hs j, has_cons, hj, Bool.or_true]
      refine ⟨?_, h.ka j hj1⟩
      obtain ⟨s, hm, h4, h5⟩ := has_true.1 hj
      have h6 := h3 s hm
      have h7 := not_ak (S := S) (k3 r.2.toNat (by omega))
      omega
    rw [List.length_cons]
    omega
theorem Sa.cut_len (hy : Sa S la ll) (h : S.ok) (lo hi : Nat) : hi ≤ lo ∨ ((ll.flatMap (cutP lo hi)).length : Int) ≤ 2048 := by
  rcases Nat.lt_or_ge lo hi with hl | hl
  · right
    have := few h (cut_gd lo hi (by omega) ll hy.gl) fun j hj => by
      rw [has_flat lo hi (by omega), Bool.and_eq_true, hy.yl] at hj
      exact ⟨(h.kg j hj.1).2, (h.kg j hj.1).1⟩
    omega
  · exact .inl hl
theorem Sa.has_cut (hy : Sa S la ll) (h : S.ok) (lo hi j : Nat) : hasL (cutL ll lo hi 2048) j = (S.ag j && !(decide (lo ≤ j) && decide (j < hi))) := by
  rw [has_cutL (by rcases hy.cut_len h lo hi with k | k; exact .inl (by omega); exact .inr k), hy.yl]
  simp
theorem nextO_eq {most limit : Nat} {lo n : Nat} {fin : Bool} (h : nextR S most limit = ⟨lo, n, fin, true⟩) : nextO S most limit = sentO S lo n fin := by unfold nextO; rw [h]
theorem Sa.sent (hy : Sa S la ll) (h : S.ok) {lo hi : Nat} (hl : lo ≤ hi) (fin : Bool) : Sa (sentO S lo (hi - lo) fin) la (cutL ll lo hi 2048) := by
  refine ⟨hy.ga, cutL_gd hy.gl _ _ _, hy.ya, fun j => ?_⟩
  rw [hy.has_cut h]
  show _ = (S.ag j && !(decide (lo ≤ j) && decide (j < lo + (hi - lo))))
  rw [show lo + (hi - lo) = hi by omega]
theorem inT_told (S : OS) (off : Nat) (n : Int) (j : Nat) : inT S off n.toNat j = (decide (tLo S.gn off ≤ j) && decide (j < tHi S.gn off n)) := by
  unfold inT tHi tLo
  rw [Bool.eq_iff_iff]
  simp only [Bool.and_eq_true, decide_eq_true_eq]
  omega
theorem has_add {l : RL} (hg : Gd l) (hl : l.length ≤ 2000) {lo hi : Nat} (hh : hi ≤ 1099511627776) (j : Nat) : hasL (addV l lo hi 2048) j = (hasL l j || (decide (lo ≤ j) && decide (j < hi))) := by
  rw [has_addV hg (by omega) (by have := addGo_len l ((lo : Int), (hi : Int)) false; omega)]
  simp
theorem Sa.acked (hy : Sa S la ll) (h : S.ok) (hL : S.bs.length ≤ 1099511627776) (off : Nat) (n : Int) (fin : Bool) :
    Sa (ackO S off n.toNat fin) (addV la (tLo S.gn off) (tHi S.gn off n) 2048) (cutL ll (tLo S.gn off) (tHi S.gn off n) 2048) := by
  have hf := hy.la_few h
  have ht := tHi_le S.gn off n
  have hg := h.gl
  refine ⟨addV_gd hy.ga _ _ _ (by omega), cutL_gd hy.gl _ _ _, fun j => ?_, fun j => ?_⟩
  · rw [has_add hy.ga (by omega) (by omega), hy.ya]
    show _ = (S.ak j || inT S off n.toNat j)
    rw [inT_told]
  · rw [hy.has_cut h]
    show _ = (S.ag j && !inT S off n.toNat j)
    rw [inT_told]
/-- Lost up to f. -/
def lostT (S : OS) (lo f : Nat) (j : Nat) : Bool := S.ag j || (decide (lo ≤ j) && decide (j < f) && !S.ak j)
theorem lostT_start (S : OS) (lo j : Nat) : lostT S lo lo j = S.ag j := by
  unfold lostT
  have : (decide (lo ≤ j) && decide (j < lo)) = false := by simp
  rw [this]
  simp
theorem lostT_few {S : OS} (h : S.ok) {l : RL} (hg : Gd l) {lo f : Nat} (hf : f ≤ S.gn) (hs : Says l (lostT S lo f)) : l.length ≤ 1024 := few h hg fun j hj => by
  rw [hs] at hj
  unfold lostT at hj
  rcases (Bool.or_eq_true _ _).mp hj with k | k
  · exact ⟨(h.kg j k).2, (h.kg j k).1⟩
  · simp only [Bool.and_eq_true, decide_eq_true_eq] at k
    exact ⟨by simpa using k.2, by omega⟩
/-- A gap among what is acknowledged is lost too. -/
theorem lostT_gap {S : OS} (h : S.ok) (hL : S.bs.length ≤ 1099511627776) {la l : RL} (hya : Says la S.ak) (hg : Gd l) {lo f a e hi : Nat} (hlf : lo ≤ f) (hs : Says l (lostT S lo f)) (hfa : f ≤ a) (hae : a < e) (heh : e ≤ hi) (hhi : hi ≤ S.gn)
    (h1 : ∀ n : Nat, f ≤ n → n < a → hasL la n = true) (h2 : ∀ n : Nat, a ≤ n → n < e → hasL la n = false) : Gd (addV l a e 2048) ∧ Says (addV l a e 2048) (lostT S lo e) := by
  have hgl := h.gl
  have hl := lostT_few h hg (by omega) hs
  refine ⟨addV_gd hg _ _ _ (by omega), fun j => ?_⟩
  rw [has_add hg (by omega) (by omega), hs]
  unfold lostT
  cases S.ag j with
  | true => rfl
  | false =>
    rw [Bool.false_or, Bool.false_or, Bool.eq_iff_iff]
    simp only [Bool.or_eq_true, Bool.and_eq_true, decide_eq_true_eq, Bool.not_eq_true']
    constructor
    · rintro (⟨⟨k1, k2⟩, k3⟩ | ⟨k1, k2⟩)
      · exact ⟨⟨k1, by omega⟩, k3⟩
      · exact ⟨⟨by omega, k2⟩, by rw [← hya]; exact h2 j k1 k2⟩
    · rintro ⟨⟨k1, k2⟩, k3⟩
      rcases Nat.lt_or_ge j f with k | k
      · exact .inl ⟨⟨k1, k⟩, k3⟩
      · rcases Nat.lt_or_ge j a with k' | k'
        · have := h1 j k k'
          rw [hya, k3] at this
          cases this
        · exact .inr ⟨k', k2⟩
/-- All the rest is acknowledged. -/
theorem lostT_end {S : OS} {la l : RL} (hya : Says la S.ak) {off : Nat} {n : Int} {f : Nat} (hlf : tLo S.gn off ≤ f) (hfh : f ≤ tHi S.gn off n) (hs : Says l (lostT S (tLo S.gn off) f)) (h1 : ∀ m : Nat, f ≤ m → m < tHi S.gn off n → hasL la m = true) (fin : Bool) : Says l (lostO S off n.toNat fin).ag := fun j => by
  rw [hs]
  show _ = (S.ag j || (inT S off n.toNat j && !S.ak j))
  rw [inT_told]
  unfold lostT
  cases S.ag j with
  | true => rfl
  | false =>
    rw [Bool.false_or, Bool.false_or, Bool.eq_iff_iff]
    simp only [Bool.and_eq_true, decide_eq_true_eq, Bool.not_eq_true']
    constructor
    · rintro ⟨⟨k1, k2⟩, k3⟩
      exact ⟨⟨k1, by omega⟩, k3⟩
    · rintro ⟨⟨k1, k2⟩, k3⟩
      rcases Nat.lt_or_ge j f with k | k
      · exact ⟨⟨k1, k⟩, k3⟩
      · have := h1 j k k2
        rw [hya, k3] at this
        cases this
/-- The new base: what Gap of the acknowledged tells from the old one on. -/
theorem base_gap {S : OS} (h : S.ok) {la : RL} (hg : Gd la) (hya : Says la S.ak) {b : Nat} (hb : ∀ j, j < b → S.ak j = true) (hbg : b ≤ S.gn) :
    (gapV la b S.gn = #[.agg #[.int .u64 0, .int .u64 0], .bool false] ∧ baseO S = S.gn) ∨ ∃ e : Nat, gapV la b S.gn = #[.agg #[.int .u64 (baseO S), .int .u64 e], .bool true] := by
  have hgl := h.gl
  rcases gap_cases hg b S.gn with ⟨hV, hall⟩ | ⟨a, e, hV, hfa, hae, heE, hall, hnone⟩
  · refine .inl ⟨hV, runF_is hgl (fun j hj => ?_) fun hl => ?_⟩
    · rw [Nat.zero_add]
      rcases Nat.lt_or_ge j b with k | k
      · exact hb j k
      · rw [← hya]
        exact hall j k hj
    · rw [Nat.zero_add]
      cases ha : S.ak S.gn with
      | false => rfl
      | true => have := h.ka _ ha; omega
  · have hba : baseO S = a := runF_is (by omega) (fun j hj => by
      rw [Nat.zero_add]
      rcases Nat.lt_or_ge j b with k | k
      · exact hb j k
      · rw [← hya]
        exact hall j k hj) fun hl => by
      rw [Nat.zero_add, ← hya]
      exact hnone a (Nat.le_refl _) hae
    rw [hba]
    exact .inr ⟨e, hV⟩
/-- What ahead tells is what Next takes from. -/
theorem next_ah {S : OS} (hok : S.ok) {la ll : RL} (hy : Sa S la ll) (most limit : Nat) : ∃ lo hi : Nat, ∃ ok : Bool, ahO S ll limit = (((lo : Int), (hi : Int)), ok) ∧ lo ≤ hi ∧ hi ≤ S.bs.length ∧
    ((ok = false ∨ (most = 0 ∧ lo < hi)) → nextR S most limit = ⟨0, 0, false, false⟩) ∧
    (ok = true → (0 < most ∨ lo = hi) → nextR S most limit = ⟨lo, min hi (lo + most) - lo, decide (min hi (lo + most) = S.bs.length) && endO S, true⟩) ∧ (ok = true → baseO S ≤ lo) ∧ (ok = true → lo = hi → lo ≤ S.gn) := by
  have hb := gn_base hok
  cases hll : ll with
  | cons r t =>
    have hg := hy.gl
    have hs := hy.yl
    rw [hll] at hg hs
    have h1 := hg.1 r (List.mem_cons_self ..)
    unfold OkR at h1
    obtain ⟨i, hi⟩ : ∃ i : Nat, (i : Int) = r.1 := ⟨r.1.toNat, by omega⟩
    obtain ⟨k, hk⟩ : ∃ k : Nat, (k : Int) = r.2 := ⟨r.2.toNat, by omega⟩
    obtain ⟨f1, f2, f3⟩ := says_first hok hg hs hi hk
    have ff := says_from hok hg hs hi hk most limit
    obtain ⟨k1, k2, k3⟩ := says_head hg hs
    refine ⟨i, k, true, ?_, by omega, by omega, ?_, ?_, fun _ => not_ak (hok.kg i (k2 i (by omega) (by omega))).2, fun _ e => by omega⟩
    · show (r, true) = _
      rw [hi, hk]
    · rintro (h | ⟨h, _⟩)
      · cases h
      · unfold nextR
        rw [ff, f1]
        rw [h]
        simp
        omega
    · intro _ hm
      unfold nextR
      rw [ff]
      dsimp only
      rw [if_neg (by omega), show min k (i + most) = i + min most (k - i) by omega]
  | nil =>
    have hs := hy.yl
    rw [hll] at hs
    have ff := says_from_nil hs most limit
    have f1 := says_first_nil hs
    by_cases hc : S.gn < min limit S.bs.length
    · refine ⟨S.gn, min limit S.bs.length, true, by unfold ahO; simp only [if_pos hc], by omega, by omega, ?_, ?_, fun _ => hb.1, fun _ e => by omega⟩
      · rintro (h | ⟨h, _⟩)
        · cases h
        · unfold nextR
          rw [ff, f1, h, if_pos (by omega), if_neg (by omega)]
      · intro _ hm
        unfold nextR
        rw [ff]
        dsimp only
        rw [if_neg (by omega), show max S.gn (min (min S.bs.length limit) (S.gn + most)) = min (min limit S.bs.length) (S.gn + most) by omega]
    · by_cases he : (endO S && decide (S.gn = S.bs.length)) = true
      · have he' := he
        rw [Bool.and_eq_true, decide_eq_true_eq] at he'
        refine ⟨S.bs.length, S.bs.length, true, by unfold ahO; simp only [if_neg hc, if_pos he], by omega, by omega, ?_, ?_, fun _ => by omega, fun _ _ => by omega⟩
        · rintro (h | ⟨h, h2⟩)
          · cases h
          · omega
        · intro _ _
          unfold nextR
          rw [ff, f1, if_pos (by omega), if_pos ⟨rfl, he'.2, he'.1⟩, he'.1, Nat.min_eq_left (by omega)]
          simp
      · refine ⟨0, 0, false, by unfold ahO; simp only [if_neg hc, if_neg he]; rfl, by omega, by omega, ?_, fun h => (by cases h), fun h => (by cases h), fun h => (by cases h)⟩
        intro _
        unfold nextR
        rw [ff, f1, if_pos (by omega), if_neg]
        rintro ⟨_, h2, h3⟩
        rw [h3, h2] at he
        simp at he
end
end Go.Proofs.Ytohahkjikhpamaa
