/-
  Plain arithmetic: the bytes of numbers of unlike lengths stand in the order of the numbers; of two rows one behind the other each is got at its place.
-/
import Derived.Test.YtpegfmgbmfoiaaaPutMath
import Derived.Laws.Strings
namespace Go.Proofs.Ytpegfmgbmfoiaaa
set_option linter.unusedVariables false
open Go.RowKit
def lessI : List Int → List Int → Bool
  | _, [] => false
  | [], _ :: _ => true
  | a :: x, b :: y => decide (a < b) || (decide (a = b) && lessI x y)
theorem byte_lt (a b : Int) (ha : 0 ≤ a ∧ a < 256) (hb : 0 ≤ b ∧ b < 256) : (UInt8.ofNat a.toNat < UInt8.ofNat b.toNat) ↔ a < b := by
  rw [UInt8.lt_iff_toNat_lt, UInt8.toNat_ofNat', UInt8.toNat_ofNat']; omega
theorem byte_eq (a b : Int) (ha : 0 ≤ a ∧ a < 256) (hb : 0 ≤ b ∧ b < 256) : (UInt8.ofNat a.toNat = UInt8.ofNat b.toNat) ↔ a = b := by
  rw [← UInt8.toNat_inj, UInt8.toNat_ofNat', UInt8.toNat_ofNat']; omega
theorem bytesLess_map : ∀ (x y : List Int), Byt x → Byt y → Op.bytesLess (x.map fun n => UInt8.ofNat n.toNat) (y.map fun n => UInt8.ofNat n.toNat) = lessI x y
  | x, [], _, _ => by cases x <;> rfl
  | [], b :: y, _, _ => rfl
  | a :: x, b :: y, hx, hy => by
    have ha := hx a (by simp)
    have hb := hy b (by simp)
    have ih := bytesLess_map x y (fun z hz => hx z (by simp [hz])) (fun z hz => hy z (by simp [hz]))
    simp only [List.map_cons, Op.bytesLess, lessI, ih]
    congr 1
    · exact decide_eq_decide.2 (byte_lt a b ha hb)
    · congr 1
      rw [Bool.eq_iff_iff]
      simp only [beq_iff_eq, decide_eq_true_eq]
      exact byte_eq a b ha hb
theorem less_text (x y : List Int) (hx : Byt x) (hy : Byt y) : Op.bytesLess (strOfNums x).toList (strOfNums y).toList = lessI x y := by
  have e : ∀ l : List Int, (strOfNums l).toList = l.map fun n => UInt8.ofNat n.toNat := fun l => by
    rw [ByteArray.toList_eq, strOfNums_data]
  rw [e, e, bytesLess_map x y hx hy]
theorem lessI_lt {a b : Int} (h : a < b) (x y : List Int) : lessI (a :: x) (b :: y) = true := by simp [lessI, h]
theorem lessI_gt {a b : Int} (h : b < a) (x y : List Int) : lessI (a :: x) (b :: y) = false := by
  simp only [lessI]
  rw [decide_eq_false (by omega), decide_eq_false (by omega)]; rfl
theorem foldS_from (t : List Int) : ∀ n : Int, foldS n t = n * 256 ^ t.length + foldS 0 t := by
  induction t with
  | nil => intro n; simp [foldS]
  | cons a t ih =>
    intro n
    show foldS (n * 256 + a) t = _ + foldS (0 * 256 + a) t
    rw [ih, ih (0 * 256 + a), show 0 * 256 + a = a by omega, List.length_cons, Int.pow_succ, Int.mul_comm (256 ^ t.length) 256, ← Int.mul_assoc, Int.add_mul]; omega
theorem lessI_fold : ∀ (x y : List Int), Byt x → Byt y → x.length = y.length → lessI x y = decide (foldS 0 x < foldS 0 y)
  | [], [], _, _, _ => by simp [lessI, foldS]
  | a :: x, b :: y, hx, hy, hl => by
    have hx' : Byt x := fun z hz => hx z (by simp [hz])
    have hy' : Byt y := fun z hz => hy z (by simp [hz])
    have hl' : x.length = y.length := by simpa using hl
    have ih := lessI_fold x y hx' hy' hl'
    have bx := foldS_bd x 0 hx' (by omega) 1 (by omega)
    have by_ := foldS_bd y 0 hy' (by omega) 1 (by omega)
    have e1 : foldS 0 (a :: x) = a * 256 ^ x.length + foldS 0 x := by rw [show foldS 0 (a :: x) = foldS (0 * 256 + a) x from rfl, foldS_from]; simp
    have e2 : foldS 0 (b :: y) = b * 256 ^ x.length + foldS 0 y := by rw [show foldS 0 (b :: y) = foldS (0 * 256 + b) y from rfl, foldS_from, hl']; simp
    rw [e1, e2]
    rw [← hl'] at by_
    rw [Int.one_mul] at bx by_
    obtain ⟨P, hP⟩ : ∃ P, (256 : Int) ^ x.length = P := ⟨_, rfl⟩
    rw [hP] at bx by_ ⊢
    rcases Int.lt_trichotomy a b with h | h | h
    · rw [lessI_lt h, eq_comm, decide_eq_true_eq]
      have : (a + 1) * P ≤ b * P := Int.mul_le_mul_of_nonneg_right (by omega) (by omega)
      rw [Int.add_mul] at this; omega
    · subst h
      simp only [lessI, ih]
      simp
    · rw [lessI_gt h, eq_comm, decide_eq_false_iff_not]
      have : (b + 1) * P ≤ a * P := Int.mul_le_mul_of_nonneg_right (by omega) (by omega)
      rw [Int.add_mul] at this; omega
theorem fold_put (x : Int) (h0 : 0 ≤ x) (h : x ≤ 4611686018427387903) : foldS 0 (putS x) = putM x := by
  unfold putS
  rcases size_cases x h0 h with ⟨a, b, c, d⟩ | ⟨a, b, c, d⟩ | ⟨a, b, c, d⟩ | ⟨a, b, c, d⟩ <;> rw [a, c]
  · rw [be1]; simp [foldS]; omega
  · rw [be2]; simp [foldS]; omega
  · rw [be4]; simp [foldS]; omega
  · rw [be8]; simp [foldS]; omega
theorem put_head (x : Int) (h0 : 0 ≤ x) (h : x ≤ 4611686018427387903) : ∃ b t, putS x = b :: t ∧ 64 * clsS x ≤ b ∧ b < 64 * clsS x + 64 := by
  unfold putS
  rcases size_cases x h0 h with ⟨a, b, c, d⟩ | ⟨a, b, c, d⟩ | ⟨a, b, c, d⟩ | ⟨a, b, c, d⟩ <;> rw [a, b, c]
  · exact ⟨_, _, be1 _, by omega, by omega⟩
  · exact ⟨_, _, be2 _, by omega, by omega⟩
  · exact ⟨_, _, be4 _, by omega, by omega⟩
  · exact ⟨_, _, be8 _, by omega, by omega⟩
theorem put_less (x y : Int) (hx0 : 0 ≤ x) (hx : x ≤ 4611686018427387903) (hy0 : 0 ≤ y) (hy : y ≤ 4611686018427387903) : lessI (putS x) (putS y) = decide (x < y) := by
  obtain ⟨a, s, e1, a0, a1⟩ := put_head x hx0 hx
  obtain ⟨b, t, e2, b0, b1⟩ := put_head y hy0 hy
  have cx := size_cases x hx0 hx
  have cy := size_cases y hy0 hy
  rcases Int.lt_trichotomy (clsS x) (clsS y) with h | h | h
  · rw [e1, e2, lessI_lt (by omega), eq_comm, decide_eq_true_eq]
    unfold clsS at h
    (repeat' split at h) <;> omega
  · have hs : sizeS x = sizeS y := by
      rcases cx with ⟨p, q, _⟩ | ⟨p, q, _⟩ | ⟨p, q, _⟩ | ⟨p, q, _⟩ <;> rcases cy with ⟨p', q', _⟩ | ⟨p', q', _⟩ | ⟨p', q', _⟩ | ⟨p', q', _⟩ <;> omega
    rw [lessI_fold _ _ (putS_byt x) (putS_byt y) (by rw [putS_len, putS_len, hs]), fold_put x hx0 hx, fold_put y hy0 hy]
    apply decide_eq_decide.2
    rcases cx with ⟨p, q, r, _⟩ | ⟨p, q, r, _⟩ | ⟨p, q, r, _⟩ | ⟨p, q, r, _⟩ <;> rcases cy with ⟨p', q', r', _⟩ | ⟨p', q', r', _⟩ | ⟨p', q', r', _⟩ | ⟨p', q', r', _⟩ <;> omega
  · rw [e1, e2, lessI_gt (by omega), eq_comm, decide_eq_false_iff_not]
    unfold clsS at h
    (repeat' split at h) <;> omega
theorem size_mono (x y : Int) (h : x ≤ y) (hy : y ≤ 4611686018427387903) : sizeS x ≤ sizeS y := by
  unfold sizeS; (repeat' split) <;> omega
end Go.Proofs.Ytpegfmgbmfoiaaa
