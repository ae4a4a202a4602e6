/-
  The document's own reader (narthexref2) answers what package octet's does; Two and Text and Of of package octet.
-/
import Derived.Test.YtdakbedohjemeaaMq4
namespace Go.Proofs.Ytdakbedohjemeaa
section
set_option linter.unusedVariables false
open Go.RowKit
set_option maxRecDepth 100000 in
theorem Rdr.drewN {w : World} {p : Nat} {T : TypeId} {P : Nat → Prop} {s : St} (h : Rdr w p T P s) (n : Nat) : Rdr (w.drewN n) p T P s := h.kept ((Kept.refl (fun _ => False) w).drewN n) (fun h => h) (fun _ _ h => h)
set_option maxRecDepth 100000 in
theorem or_u16 (x y : Int) (hx0 : 0 ≤ x) (hx1 : x < 256) (hy0 : 0 ≤ y) (hy1 : y < 256) : bits BinOp.or IntKind.u16 (x * 256) y = x * 256 + y := by
  rw [u16_or _ _ (by omega) (by omega) hy0 (by omega), nat_join 8 _ _ (by omega) (by omega)]; omega
set_option maxRecDepth 100000 in
theorem takeR2 (s : St) : (takeR s 2).length = 2 ∨ (takeR s 2).length = 0 := by
  unfold takeR; split <;> simp; omega
set_option maxRecDepth 100000 in
theorem two_any (p : Nat) (T : TypeId) (P : Nat → Prop) (s : St) (w : World) (hr : Rdr w p T P s) (hP : ∀ b, P b → b ≠ p) :
    Calls Try.prog 57 #[.pointer (some ⟨p, 0, none⟩)] w (NumPost .u16 w p T P (twoR s) (takeN s 2)) := by
  have RV := Lib.hid (show twoR s = (takeR s 2).getD 0 0 * 256 + (takeR s 2).getD 1 0 from rfl)
  go_enter Try.func57, Try.ntmps57
  go_wp2_with fail
  refine (take_any p T P s 2 w hr hP).mono ?_
  rintro e w1 ⟨A, k, c, rfl, hkc, hc, hA, hrd, hr', hk'⟩
  have hk1 := takeR2 s
  rw [hrd.len] at hk1
  obtain ⟨T1, hT1⟩ : ∃ T1, takeR s 2 = T1 := ⟨_, rfl⟩
  rw [hT1] at hrd RV
  have hby := hrd.byt
  clear hT1
  unfold maxLen at hc
  rcases hk1 with rfl | rfl
  · obtain ⟨b, off, rfl, hb, hcell⟩ := hrd.1.2.2 (by omega)
    have c1 := hcell 0 (by omega)
    have c2 := hcell 1 (by omega)
    rw [Nat.add_zero] at c1
    have hx := hby.getD 0
    have hy := hby.getD 1
    obtain ⟨x, hx'⟩ : ∃ x, T1.getD 0 0 = x := ⟨_, rfl⟩
    obtain ⟨y, hy'⟩ : ∃ y, T1.getD 1 0 = y := ⟨_, rfl⟩
    rw [hx'] at RV c1 hx
    rw [hy'] at RV c2 hy
    obtain ⟨hx0, hx1⟩ := hx
    obtain ⟨hy0, hy1⟩ := hy
    have O := Lib.hid (or_u16 x y hx0 hx1 hy0 hy1)
    clear hcell hA hr hrd hx' hy' hby
    go_wp2_with fail
    go_quiet (fail)
    go_wp2
    go_ret
    exact ⟨by rw [RV.out, ← O.out]; rfl, hr'.drewN _, hk'.drewN _⟩
  · have hT : T1 = [] := List.eq_nil_of_length_eq_zero hrd.len
    rw [hT] at RV
    clear hr hT hrd hby
    go_wp2_with fail
    go_ret
    exact ⟨by rw [RV.out]; rfl, hr', hk'⟩
end
section
set_option linter.unusedVariables false
open Go.RowKit
end
end Go.Proofs.Ytdakbedohjemeaa
