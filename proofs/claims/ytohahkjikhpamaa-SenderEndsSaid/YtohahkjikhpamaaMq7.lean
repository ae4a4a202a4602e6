/-
  outbuf: a buffer of which nothing is lost (OutbufRoom); rows of flags as functions (the document's Acks, Again): mathematics alone.
-/
import Derived.Test.YtohahkjikhpamaaDa
import Derived.Test.YtohahkjikhpamaaBytes
import Derived.OpenShut
import Derived.Test.YtohahkjikhpamaaProg
import Derived.Test.YtohahkjikhpamaaMq0
import Derived.Deep.Slices
import Derived.ChangeSlices
import Derived.WalkKit
import Derived.SizedLaws
namespace Go.Proofs.Ytohahkjikhpamaa
section
set_option linter.unusedVariables false
set_option linter.unusedSimpArgs false
/-- Nothing is lost, the first are acknowledged, Finish was not called. -/
structure Fr (S : OS) (total base : Nat) : Prop where
  ok : S.ok
  len : S.bs.length = total
  ak : ∀ j, S.ak j = decide (j < base)
  ag : ∀ j, S.ag j = false
  ov : S.ov = false
  bg : base ≤ S.gn
section
variable {S : OS} {total base : Nat}
theorem Fr.le (h : Fr S total base) : base ≤ S.gn ∧ S.gn ≤ total := ⟨h.bg, by have := h.ok.gl; have := h.len; omega⟩
theorem Fr.bas (h : Fr S total base) : baseO S = base := by
  have := h.le
  refine runF_is (by rw [h.len]; omega) (fun j hj => by rw [Nat.zero_add, h.ak]; simpa using hj) fun _ => by rw [Nat.zero_add, h.ak]; simp
theorem Fr.room (h : Fr S total base) : roomO S = 2048 - (total - base) := by
  unfold roomO
  rw [h.ov, h.bas, h.len]
  rfl
theorem Fr.write (h : Fr S total base) {d : List Int} (hd : Byt d) : Fr (writeO S d) (total + min d.length (2048 - (total - base))) base := by
  refine ⟨writeO_ok h.ok hd, ?_, h.ak, h.ag, h.ov, h.bg⟩
  show (S.bs ++ d.take (writeN S d.length)).length = _
  have hw : writeN S d.length = min d.length (2048 - (total - base)) := by rw [writeN, h.room]
  rw [List.length_append, List.length_take, h.len, hw]
  omega
theorem Fr.first (h : Fr S total base) : firstO S = S.gn := runF_is (Nat.le_refl _) (fun j hj => by rw [h.ag]; rfl) fun hl => absurd hl (by omega)
theorem Fr.end_ (h : Fr S total base) : endO S = false := by unfold endO; rw [h.ov]; rfl
/-- What is not sent yet goes. -/
theorem Fr.next (h : Fr S total base) {limit : Nat} (hl : total ≤ limit) (most : Nat) : nextR S most limit = if min total (S.gn + most) = S.gn then ⟨0, 0, false, false⟩ else ⟨S.gn, min total (S.gn + most) - S.gn, false, true⟩ := by
  have hle := h.le
  unfold nextR fromO
  rw [h.first, if_neg (Nat.lt_irrefl _), h.end_, h.len]
  have e : max S.gn (min (min total limit) (S.gn + most)) = min total (S.gn + most) := by omega
  dsimp only
  rw [e]
  by_cases hc : min total (S.gn + most) = S.gn
  · rw [if_pos hc, if_pos hc.symm, if_neg (by simp)]
  · rw [if_neg hc, if_neg (fun k => hc k.symm)]
    simp
theorem Fr.sent (h : Fr S total base) {limit : Nat} (hl : total ≤ limit) (most : Nat) : Fr (nextO S most limit) total base ∧ (nextO S most limit).gn = min total (S.gn + most) := by
  have hle := h.le
  have hg : (nextO S most limit).gn = min total (S.gn + most) := by
    show max S.gn (if (nextR S most limit).n = 0 then 0 else (nextR S most limit).off + (nextR S most limit).n) = _
    rw [h.next hl most]
    by_cases hc : min total (S.gn + most) = S.gn
    · rw [if_pos hc]
      dsimp only
      rw [if_pos rfl]
      omega
    · rw [if_neg hc]
      dsimp only
      rw [if_neg (by omega)]
      omega
  refine ⟨⟨nextO_ok h.ok _ _, h.len, h.ak, fun j => ?_, h.ov, by rw [hg]; omega⟩, hg⟩
  show (S.ag j && _) = false
  rw [h.ag]
  rfl
end
/-- A row of flags. -/
def tabB (f : Nat → Bool) (n : Nat) : List Bool := (List.range n).map f
theorem tabB_len (f : Nat → Bool) (n : Nat) : (tabB f n).length = n := by simp [tabB]
theorem tabB_more (f : Nat → Bool) (n : Nat) (h : f n = false) : tabB f n ++ [false] = tabB f (n + 1) := by
  unfold tabB
  rw [List.range_succ, List.map_append, List.map_singleton, h]
/-- The document's rows of flags keep what is acknowledged, what is to be sent again. -/
structure Rf (S : OS) (C A : List Bool) : Prop where
  c : C = tabB S.ak S.bs.length
  a : ∃ aw : Nat → Bool, A = tabB aw S.bs.length ∧ (∀ j, S.ag j = (aw j && !S.ak j)) ∧ ∀ j, aw j = true → j < S.gn
theorem tabB_app (f : Nat → Bool) (n : Nat) : ∀ k, (∀ j, n ≤ j → f j = false) → tabB f n ++ List.replicate k false = tabB f (n + k)
  | 0, _ => by simp
  | k + 1, h => by
    rw [List.replicate_succ', ← List.append_assoc, tabB_app f n k h, tabB_more f (n + k) (h _ (by omega))]
    rfl
section
variable {S : OS} {C A : List Bool}
theorem Rf.len (r : Rf S C A) : C.length = S.bs.length ∧ A.length = S.bs.length := by
  obtain ⟨h1, aw, h2, _⟩ := r
  rw [h1, h2, tabB_len, tabB_len]
  exact ⟨rfl, rfl⟩
theorem Rf.write (r : Rf S C A) (h : S.ok) (d : List Int) : Rf (writeO S d) (C ++ List.replicate (writeN S d.length) false) (A ++ List.replicate (writeN S d.length) false) := by
  obtain ⟨h1, aw, h2, h3, h4⟩ := r
  have hg := h.gl
  have hlen : (writeO S d).bs.length = S.bs.length + writeN S d.length := by
    show (S.bs ++ d.take _).length = _
    have : writeN S d.length ≤ d.length := Nat.min_le_left _ _
    simp; omega
  refine ⟨?_, aw, ?_, h3, h4⟩
  · rw [hlen, h1, tabB_app]
    · rfl
    · intro j hj
      cases ha : S.ak j with
      | false => rfl
      | true => have := h.ka j ha; omega
  · rw [hlen, h2, tabB_app]
    intro j hj
    cases ha : aw j with
    | false => rfl
    | true => have := h4 j ha; omega
theorem Rf.lost (h1 : C = tabB S.ak S.bs.length) {aw : Nat → Bool} (h2 : A = tabB aw S.bs.length) (h3 : ∀ j, S.ag j = (aw j && !S.ak j)) (h4 : ∀ j, aw j = true → j < S.gn) (off n : Nat) (fin : Bool) : Rf (lostO S off n fin) C (tabB (fun j => aw j || inT S off n j) S.bs.length) := by
  refine ⟨h1, fun j => aw j || inT S off n j, rfl, fun j => ?_, fun j hj => ?_⟩
  · show (S.ag j || (inT S off n j && !S.ak j)) = ((aw j || inT S off n j) && !S.ak j)
    rw [h3]
    cases aw j <;> cases S.ak j <;> cases inT S off n j <;> rfl
  · rcases (Bool.or_eq_true _ _).mp hj with k | k
    · exact h4 j k
    · exact (inT_gn k).2.2
theorem Rf.sent (h1 : C = tabB S.ak S.bs.length) {aw : Nat → Bool} (h2 : A = tabB aw S.bs.length) (h3 : ∀ j, S.ag j = (aw j && !S.ak j)) (h4 : ∀ j, aw j = true → j < S.gn) (off n : Nat) (fin : Bool) : Rf (sentO S off n fin) C (tabB (fun j => aw j && !(decide (off ≤ j) && decide (j < off + n))) S.bs.length) := by
  refine ⟨h1, _, rfl, fun j => ?_, fun j hj => ?_⟩
  · show (S.ag j && !(decide (off ≤ j) && decide (j < off + n))) = ((aw j && !(decide (off ≤ j) && decide (j < off + n))) && !S.ak j)
    rw [h3]
    cases aw j <;> cases S.ak j <;> cases (decide (off ≤ j) && decide (j < off + n)) <;> rfl
  · rw [Bool.and_eq_true] at hj
    have := h4 j hj.1
    show j < max S.gn _
    omega
end
end
section
set_option linter.unusedVariables false
open Go.RowKit
/-- A row of bytes that came in: what the walk needs of it. -/
def InRow (w : World) (A : Option Addr) (n c : Nat) (bs : List Int) : Prop := Rd w w.heap.size A n bs ∧ n ≤ c ∧ c ≤ maxLen ∧ (A = none → c = 0)
theorem cell_lt {w : World} {b off : Nat} {v : Value} (h : w.cell? ⟨b, off, none⟩ = some v) : b < w.heap.size := by
  rcases Nat.lt_or_ge b w.heap.size with hlt | hge
  · exact hlt
  · have e : w.heap[b]? = none := Array.getElem?_eq_none hge
    simp [World.cell?, e] at h
theorem inRow_nil (w : World) (n c : Nat) (hn : n = 0) (hc : c = 0) : InRow w none n c [] := by
  subst hn; subst hc
  exact ⟨Rd.none_ _ _ _, Nat.le_refl _, by unfold maxLen; omega, fun _ => rfl⟩
theorem inRow_some {w : World} {x : Addr} {len cap : Nat} {zs : List Int} (hl : len ≤ cap) (hm : cap ≤ maxLen) (hz : zs.length = cap)
    (hcell : ∀ i, i < zs.length → w.cell? (x.add i) = some (.int .u8 (zs.getD i 0))) (hw : ∀ n ∈ zs, (Lit.int .u8 n).wf = true) : InRow w (some x) len cap (zs.take len) := by
  refine ⟨⟨by rw [List.length_take]; omega, fun y hy => ?_, fun hp => ?_⟩, hl, hm, fun h => by cases h⟩
  · have := bounds_u8 (hw y (List.mem_of_mem_take hy))
    omega
  · obtain ⟨b, off, spot⟩ := x
    have h0 := hcell 0 (by omega)
    have hs : spot = none := by simpa [Addr.add] using World.cell?_spot h0
    subst hs
    have h1 := hcell 0 (by omega)
    rw [addr_add] at h1
    refine ⟨b, off, rfl, cell_lt h1, fun i hi => ?_⟩
    have h2 := hcell i (by omega)
    rw [addr_add] at h2
    rw [h2, List.getD_eq_getElem?_getD, List.getD_eq_getElem?_getD, List.getElem?_take_of_lt hi]
end
section
set_option linter.unusedVariables false
open Go.RowKit Go.ChangeShapes Go.WideShapes Go.Deep
section
variable {H : Type} {enc : TypeId × Value → H} {P : Program} {w : World}
/-- What a reading of a row of bytes says in the words of the walks. -/
theorem inRow_of_trod {t e : TypeId} {fuel : Nat} {cs : List Value} {x : DataW H × List MemPlace} (ht : P.underlying t = some (.slice e)) (he : P.underlying e = some (.int .u8)) (hc : P.cellsOf e = 1)
    (h : DataW.trod enc P w 0 (fun _ => true) true fuel t cs = some x) : ∃ A len cap bs, cs = [.slice A len cap] ∧ InRow w A len cap bs := by
  rcases open_ints ht he hc h with ⟨hcs, _⟩ | ⟨x, l, c, zs, hcs, _, hl, hm, hz, _, hcell, hwz⟩
  · exact ⟨none, 0, 0, [], hcs, inRow_nil w 0 0 rfl rfl⟩
  · exact ⟨_, _, _, _, hcs, inRow_some hl hm (by simpa using hz) hcell hwz⟩
end
theorem choose_list {α : Type} {p : Nat → α → Prop} : ∀ n : Nat, (∀ i, i < n → ∃ d, p i d) → ∃ L : List α, L.length = n ∧ ∀ i d, L[i]? = some d → p i d
  | 0, _ => ⟨[], rfl, fun i d h => by simp at h⟩
  | n + 1, h => by
    obtain ⟨L, hl, hp⟩ := choose_list n fun i hi => h i (by omega)
    obtain ⟨d, hd⟩ := h n (by omega)
    refine ⟨L ++ [d], by simp [hl], fun i e he => ?_⟩
    rcases Nat.lt_or_ge i n with hi | hi
    · rw [List.getElem?_append_left (by omega)] at he
      exact hp i e he
    · rw [List.getElem?_append_right (by omega)] at he
      have : i = n := by
        rcases Nat.lt_or_ge (i - L.length) 1 with h1 | h1
        · omega
        · rw [List.getElem?_eq_none (by simpa using h1)] at he; cases he
      subst this
      rw [hl, Nat.sub_self] at he
      simp at he
      subst he
      exact hd
end
section
set_option linter.unusedVariables false
set_option linter.unusedSimpArgs false
open Go.RowKit Go.ChangeShapes Go.WideShapes Go.Deep
/-- A slice of signed numbers that can be read. -/
structure InN (w : World) (A : Option Addr) (n : Nat) (xs : List Int) : Prop where
  len : xs.length = n
  wd : ∀ x ∈ xs, -9223372036854775808 ≤ x ∧ x < 9223372036854775808
  at_ : 0 < n → ∃ b off, A = some ⟨b, off, none⟩ ∧ b < w.heap.size ∧ ∀ i x, xs[i]? = some x → w.cell? ⟨b, off + i, none⟩ = some (.int .i64 x)
theorem InN.below {w w' : World} {A : Option Addr} {n : Nat} {xs : List Int} (h : InN w A n xs) (k : Below w.heap.size w w') : InN w' A n xs := ⟨h.len, h.wd, fun hn => by
  obtain ⟨b, off, e, hb, hc⟩ := h.at_ hn
  exact ⟨b, off, e, Nat.lt_of_lt_of_le hb k.size, fun i x hi => (k.cell (p := ⟨b, _, none⟩) hb).trans (hc i x hi)⟩⟩
theorem InN.nil_ (w : World) (A : Option Addr) : InN w A 0 [] := ⟨rfl, fun x h => (by cases h), fun h => absurd h (by omega)⟩
end
section
set_option linter.unusedVariables false
set_option linter.unusedSimpArgs false
open Go.RowKit Go.ChangeShapes Go.WideShapes Go.Deep
/-- A slice of bools that can be read. -/
structure BoP (w : World) (A : Option Addr) (n : Nat) (bs : List Bool) : Prop where
  len : bs.length = n
  at_ : 0 < n → ∃ b off, A = some ⟨b, off, none⟩ ∧ b < w.heap.size ∧ ∀ i x, bs[i]? = some x → w.cell? ⟨b, off + i, none⟩ = some (.bool x)
theorem BoP.below {w w' : World} {A : Option Addr} {n : Nat} {bs : List Bool} (h : BoP w A n bs) (k : Below w.heap.size w w') : BoP w' A n bs := ⟨h.len, fun hn => by
  obtain ⟨b, off, e, hb, hc⟩ := h.at_ hn
  exact ⟨b, off, e, Nat.lt_of_lt_of_le hb k.size, fun i x hi => (k.cell (p := ⟨b, _, none⟩) hb).trans (hc i x hi)⟩⟩
section
variable {H : Type} {enc : TypeId × Value → H} {w : World}
set_option maxRecDepth 100000 in
theorem bo_of_trod {fuel : Nat} {cs : List Value} {x : DataW H × List MemPlace} (h : DataW.trod enc Try.prog w 0 (fun _ => true) true fuel 51 cs = some x) :
    ∃ A n c bs, cs = [.slice A n c] ∧ BoP w A n bs ∧ n ≤ c ∧ c ≤ maxLen := by
  rcases open_slice Try.underlying51 h with ⟨rfl, _⟩ | ⟨a, len, cap, m, n, D, Pl, rfl, _, hl, hm, hmm, _, hi⟩
  · exact ⟨none, 0, 0, [], rfl, ⟨rfl, fun h => absurd h (by omega)⟩, Nat.le_refl _, by unfold maxLen; exact Nat.zero_le _⟩
  · obtain rfl : m = cap := by simpa using hmm
    have hC : Try.prog.cellsOf 4 = 1 := by kernel_rfl
    rw [hC] at hi
    obtain ⟨b, off, spot⟩ := a
    have hspot : 0 < len → spot = none := by
      intro hp
      obtain ⟨cs', hc, _⟩ := hi 0 (by omega)
      obtain ⟨_, hcl, hat⟩ := World.cells?_some hc
      have h0 := hat 0 (by omega)
      rw [List.getElem?_eq_getElem (by omega)] at h0
      simpa [Addr.add] using World.cell?_spot h0
    have each : ∀ i, i < len → ∃ r : Bool, spot = none ∧ b < w.heap.size ∧ w.cell? ⟨b, off + i, none⟩ = some (.bool r) := by
      intro i hil
      obtain ⟨cs', hc, ht⟩ := hi i (by omega)
      obtain ⟨_, hcl, hat⟩ := World.cells?_some hc
      match cs', hcl with
      | [u0], _ =>
        obtain ⟨r, e, _⟩ := DataW.trod_bool Try.underlying4 ht
        obtain rfl : u0 = .bool r := by simpa using e
        have h0 := hat 0 (by omega)
        have hs : spot = none := hspot (by omega)
        subst hs
        rw [addr_add, addr_add] at h0
        rw [Nat.mul_one, Nat.add_zero] at h0
        exact ⟨r, rfl, cell_lt h0, h0⟩
    obtain ⟨L, hL, hp⟩ := choose_list len each
    refine ⟨_, len, m, L, rfl, ⟨hL, fun hpos => ?_⟩, hl, hm⟩
    obtain ⟨d, hd⟩ : ∃ d, L[0]? = some d := ⟨_, List.getElem?_eq_getElem (by omega)⟩
    obtain ⟨hs, hb, _⟩ := hp 0 d hd
    subst hs
    exact ⟨b, off, rfl, hb, fun i d hd => (hp i d hd).2.2⟩
end
end
end Go.Proofs.Ytohahkjikhpamaa
