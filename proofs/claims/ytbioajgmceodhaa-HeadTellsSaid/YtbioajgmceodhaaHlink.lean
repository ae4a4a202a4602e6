/-
  A head, whatever bytes (head.read): what it says is parseS.
-/
import Derived.Test.YtbioajgmceodhaaHr2
import Derived.IntWalk
namespace Go.Proofs.Ytbioajgmceodhaa
set_option linter.unusedVariables false
set_option linter.unusedSimpArgs false
open Go.RowKit
set_option maxRecDepth 100000 in
theorem nat_and64 : ∀ n : Fin 256, (n.val &&& 64) = n.val / 64 % 2 * 64 := by decide
set_option maxRecDepth 100000 in
theorem nat_and128 : ∀ n : Fin 256, (n.val &&& 128) = n.val / 128 * 128 := by decide
set_option maxRecDepth 100000 in
theorem nat_and3 : ∀ n : Fin 256, (n.val &&& 3) = n.val % 4 := by decide
theorem b_and64 (x : Int) (h0 : 0 ≤ x) (h1 : x < 256) : bits BinOp.and IntKind.u8 x 64 = x / 64 % 2 * 64 := by
  obtain ⟨n, rfl⟩ := Int.eq_ofNat_of_zero_le h0
  rw [u8_and _ _ h0 h1 (by decide) (by decide)]
  have := nat_and64 ⟨n, by omega⟩
  simp only at this
  rw [show (Int.toNat (n : Int)) = n from rfl, show Int.toNat (64 : Int) = 64 from rfl, this]
  omega
theorem b_and128 (x : Int) (h0 : 0 ≤ x) (h1 : x < 256) : bits BinOp.and IntKind.u8 x 128 = x / 128 * 128 := by
  obtain ⟨n, rfl⟩ := Int.eq_ofNat_of_zero_le h0
  rw [u8_and _ _ h0 h1 (by decide) (by decide)]
  have := nat_and128 ⟨n, by omega⟩
  simp only at this
  rw [show (Int.toNat (n : Int)) = n from rfl, show Int.toNat (128 : Int) = 128 from rfl, this]
  omega
theorem b_and3 (x : Int) (h0 : 0 ≤ x) (h1 : x < 256) : bits BinOp.and IntKind.u8 x 3 = x % 4 := by
  obtain ⟨n, rfl⟩ := Int.eq_ofNat_of_zero_le h0
  rw [u8_and _ _ h0 h1 (by decide) (by decide)]
  have := nat_and3 ⟨n, by omega⟩
  simp only at this
  rw [show (Int.toNat (n : Int)) = n from rfl, show Int.toNat (3 : Int) = 3 from rfl, this]
  omega
theorem four_two (s : St) (hb : Byt s.1) (h : s.2 = true → s.1 = []) : takeN (takeN s 2) 2 = takeN s 4 ∧ (takeR s 4 = [0, 0, 0, 1] ↔ twoR s * 65536 + twoR (takeN s 2) = 1) := by
  constructor
  · rcases takeN_takeN s 2 2 (by decide) (by decide) h with h | h | h
    · exact h
    · omega
    · omega
  · obtain ⟨bs, bad⟩ := s
    match bs with
    | [] => simp [takeR, twoR, takeN]
    | [a] => simp [takeR, twoR, takeN]
    | [a, b] =>
      have ha := hb a (by simp)
      have hb' := hb b (by simp)
      simp [takeR, twoR, takeN]; omega
    | [a, b, c] =>
      have ha := hb a (by simp)
      have hb' := hb b (by simp)
      simp [takeR, twoR, takeN]; omega
    | a :: b :: c :: d :: t =>
      have h1 := hb a (by simp)
      have h2 := hb b (by simp)
      have h3 := hb c (by simp)
      have h4 := hb d (by simp)
      have e1 : takeR (a :: b :: c :: d :: t, bad) 4 = [a, b, c, d] := by
        unfold takeR; rw [if_pos ⟨by decide, by simp only [List.length_cons]; omega⟩]; rfl
      have e2 : takeR (a :: b :: c :: d :: t, bad) 2 = [a, b] := by
        unfold takeR; rw [if_pos ⟨by decide, by simp only [List.length_cons]; omega⟩]; rfl
      have e3 : takeN (a :: b :: c :: d :: t, bad) 2 = (c :: d :: t, bad) := by
        unfold takeN; rw [if_pos ⟨by decide, by simp only [List.length_cons]; omega⟩]; rfl
      have e4 : takeR (c :: d :: t, bad) 2 = [c, d] := by
        unfold takeR; rw [if_pos ⟨by decide, by simp only [List.length_cons]; omega⟩]; rfl
      unfold twoR
      rw [e1, e2, e3, e4]
      simp
      omega
/-- What was read, and what it means. -/
def LinkS (bs : List Int) (m : HN) (tok : List Int) (n : Int) (ok : Bool) (s' : St) : Prop :=
  parseS bs = if ok = true ∧ s'.2 = false ∧ 12 ≤ n ∧ n ≤ s'.1.length then some (m, tok, (bs.length : Int) - s'.1.length, (bs.length : Int) - s'.1.length + n) else none
def HRead (bs : List Int) (w : World) (p : Nat) (T : TypeId) (P : Nat → Prop) (e : Ending) (w' : World) : Prop :=
  ∃ m d tok n ok s', e = .returned (.tuple #[hdV m d, .int .u64 n, .bool ok]) ∧ LinkS bs m tok n ok s' ∧ InD w' (fun b => w.heap.size ≤ b) d tok ∧ Rdr w' p T P s' ∧ Kept (· = p) w w' ∧ 0 ≤ n ∧ n ≤ 4611686018427387903 ∧ s'.1.length ≤ bs.length ∧ m.wf
theorem link_no (bs : List Int) (m : HN) (n : Int) (s' : St) (h : parseS bs = none) : LinkS bs m [] n false s' := by
  unfold LinkS; rw [h, if_neg (by simp)]
theorem wf_zero8 : HN.zero.wf := by constructor <;> first | decide | (intro x hx; simp [HN.zero, N8.zero, N8.l] at hx; omega)
theorem n8_byt (l : List Int) (h : Byt l) : Byt (N8.of l).l := by
  intro x hx
  simp only [N8.of, N8.l, List.mem_cons, List.not_mem_nil, or_false] at hx
  rcases hx with rfl | rfl | rfl | rfl | rfl | rfl | rfl | rfl <;> exact h.getD _
theorem takeR_byt (s : St) (n : Int) (h : Byt s.1) : Byt (takeR s n) := by
  unfold takeR; split
  · exact h.take _
  · exact Byt.nil
theorem takeN_byt (s : St) (n : Int) (h : Byt s.1) : Byt (takeN s n).1 := by
  unfold takeN; split
  · exact h.drop _
  · exact Byt.nil
theorem takeN_bad (s : St) (n : Int) (h : s.2 = true → s.1 = []) : (takeN s n).2 = true → (takeN s n).1 = [] := by
  unfold takeN; split
  · intro hb; simp [h hb]
  · intro _; rfl
theorem textN_le (s : St) : (textN s).1.length ≤ s.1.length := Nat.le_trans (takeN_le _ _) (varN_le s)
theorem tokN_le (s : St) (sp : Int) : (tokN s sp).1.length ≤ s.1.length := by
  unfold tokN; split
  · exact textN_le s
  · exact Nat.le_refl _
theorem varN_byt (s : St) (h : Byt s.1) : Byt (varN s).1 := by
  unfold varN; split
  · exact Byt.nil
  · exact takeN_byt _ _ h
theorem tokN_byt (s : St) (sp : Int) (h : Byt s.1) : Byt (tokN s sp).1 := by
  unfold tokN; split
  · exact takeN_byt _ _ (varN_byt _ h)
  · exact h
theorem link_long (bs : List Int) (hb : Byt bs) (hx : ¬ byteR (bs, false) / 64 % 2 = 0) (hy : ¬ byteR (bs, false) / 128 = 0) (sp : Int) (hsp : byteR (bs, false) / 16 % 4 = sp) (h1 : sp ≤ 1)
    (hv : twoR (takeN (bs, false) 1) * 65536 + twoR (takeN (takeN (bs, false) 1) 2) = 1) (s2 : St) (hs2 : takeN (takeN (takeN (bs, false) 1) 2) 2 = s2) :
    LinkS bs ⟨sp, N8.of (lgR s2), N8.of (lgR (lgN s2)), 1, false⟩ (tokR (lgN (lgN s2)) sp) (varR (tokN (lgN (lgN s2)) sp)) ((byteR s2 == 8) && ((byteR (lgN s2) == 8) && decide ((tokR (lgN (lgN s2)) sp).length ≤ 32))) (varN (tokN (lgN (lgN s2)) sp)) := by
  have f := four_two (takeN (bs, false) 1) (takeN_byt _ _ hb) (takeN_bad _ _ (by simp))
  unfold LinkS parseS
  simp only
  rw [if_neg hx, if_neg hy, hsp, ← f.1, hs2]
  have hd : decide (sp ≤ 1 ∧ takeR (takeN (bs, false) 1) 4 = [0, 0, 0, 1]) = true := by simp only [decide_eq_true_eq]; exact ⟨h1, f.2.2 hv⟩
  rw [hd]
  unfold htailS
  by_cases hc : byteR s2 = 8 ∧ byteR (lgN s2) = 8 ∧ (tokR (lgN (lgN s2)) sp).length ≤ 32
  · obtain ⟨c1, c2, c3⟩ := hc
    simp only [c1, c2, c3, true_and, beq_self_eq_true, Bool.true_and, decide_true]
  · rw [if_neg (fun h => hc ⟨h.2.1, h.2.2.1, h.2.2.2.1⟩), if_neg (fun h => hc (by simpa using h.1))]
theorem link_bad (bs : List Int) (hb : Byt bs) (hx : ¬ byteR (bs, false) / 64 % 2 = 0) (hy : ¬ byteR (bs, false) / 128 = 0)
    (hv : twoR (takeN (bs, false) 1) * 65536 + twoR (takeN (takeN (bs, false) 1) 2) ≠ 1 ∨ 1 < byteR (bs, false) / 16 % 4) : parseS bs = none := by
  have f := four_two (takeN (bs, false) 1) (takeN_byt _ _ hb) (takeN_bad _ _ (by simp))
  unfold parseS
  simp only
  rw [if_neg hx, if_neg hy]
  have hd : decide (byteR (bs, false) / 16 % 4 ≤ 1 ∧ takeR (takeN (bs, false) 1) 4 = [0, 0, 0, 1]) = false := by
    simp only [decide_eq_false_iff_not]
    rintro ⟨h1, h2⟩
    rcases hv with hv | hv
    · exact hv (f.2.1 h2)
    · omega
  rw [hd]
  unfold htailS
  rw [if_neg (by simp)]
theorem link_short (bs : List Int) (hx : ¬ byteR (bs, false) / 64 % 2 = 0) (hy : byteR (bs, false) / 128 = 0) (s2 : St) (hs2 : takeN (takeN (bs, false) 1) 8 = s2) :
    LinkS bs ⟨2, N8.of (takeR (takeN (bs, false) 1) 8), .zero, 1, false⟩ [] s2.1.length true s2 := by
  unfold LinkS parseS
  simp only
  rw [if_neg hx, if_pos hy, hs2]
  by_cases hc : s2.2 = false ∧ 12 ≤ s2.1.length
  · rw [if_pos hc, if_pos ⟨trivial, hc.1, by omega, by omega⟩]
    have e : bs.length = 9 + s2.1.length := by
      have h1 := hc.1
      rw [← hs2] at h1 ⊢
      have h2 := take_false _ _ h1
      unfold takeN at h1 h2 ⊢
      split at h2
      · next g =>
        simp only at g
        rw [if_pos g] at h1 ⊢
        split at h1
        · next g2 =>
          rw [if_pos g2]
          simp only [List.length_drop] at g2 ⊢
          omega
        · cases h1
      · cases h2
    congr 1
    refine Prod.ext rfl (Prod.ext rfl (Prod.ext ?_ ?_)) <;> simp only <;> omega
  · rw [if_neg hc, if_neg (fun h => hc ⟨h.2.1, by have := h.2.2.1; omega⟩)]
end Go.Proofs.Ytbioajgmceodhaa
