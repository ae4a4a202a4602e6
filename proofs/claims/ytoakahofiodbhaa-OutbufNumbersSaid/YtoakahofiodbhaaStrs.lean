/-
  Whether rows of bytes as strings are the same; one step of an array's comparison.
-/
import Derived.Test.YtoakahofiodbhaaProg
import Derived.Test.YtoakahofiodbhaaBytes
import Derived.ChangeKeysEq
namespace Go.Proofs.Ytoakahofiodbhaa
set_option linter.unusedVariables false
open Go.RowKit
theorem bb_refl (a : ByteArray) : (a == a) = true := by rw [beq_toListBytes]; simp
theorem bytes_inj : ∀ (ds ds' : List Int), Byt ds → Byt ds' → (ds.map fun n => UInt8.ofNat n.toNat) = (ds'.map fun n => UInt8.ofNat n.toNat) → ds = ds'
  | [], [], _, _, _ => rfl
  | [], _ :: _, _, _, h => by simp at h
  | _ :: _, [], _, _, h => by simp at h
  | x :: xs, y :: ys, hx, hy, h => by
    simp only [List.map_cons, List.cons.injEq] at h
    obtain ⟨h1, h2⟩ := h
    have e := bytes_inj xs ys (fun z hz => hx z (by simp [hz])) (fun z hz => hy z (by simp [hz])) h2
    have a := hx x (by simp)
    have b := hy y (by simp)
    have c : (UInt8.ofNat x.toNat).toNat = (UInt8.ofNat y.toNat).toNat := by rw [h1]
    simp only [UInt8.toNat_ofNat'] at c
    rw [Nat.mod_eq_of_lt (by omega), Nat.mod_eq_of_lt (by omega)] at c
    rw [e, show x = y by omega]
theorem str_ne (ds ds' : List Int) (h : Byt ds) (h' : Byt ds') (n : ds ≠ ds') : (strOfNums ds == strOfNums ds') = false := by
  rw [beq_toListBytes, beq_eq_false_iff_ne]
  intro e
  rw [ByteArray.toList_eq, ByteArray.toList_eq] at e
  exact n (bytes_inj ds ds' h h' (by simpa [strOfNums] using e))
theorem step_items (W : World) (e : TypeId) (k : IntKind) (hp : Try.prog.plainKey e = true) (hu : Try.prog.underlying e = some (.int k)) (d c : Nat) (xs ys : Array Value) (i : Nat) (is : List Nat) (a b : Int) (hx : xs[i * c]? = some (.int k a)) (hy : ys[i * c]? = some (.int k b)) :
    (Op.eqItems (d + 1) e c xs ys (i :: is)).run Try.prog W = if a == b then (Op.eqItems (d + 1) e c xs ys is).run Try.prog W else .ok false W := by
  simp only [Op.eqItems, Sem.run_bind, run_part_plain W hp hx, run_part_plain W hp hy, run_equalIn_int W d e k k a b hu, Result.andThen_ok]
  cases (a == b) <;> simp
end Go.Proofs.Ytoakahofiodbhaa
