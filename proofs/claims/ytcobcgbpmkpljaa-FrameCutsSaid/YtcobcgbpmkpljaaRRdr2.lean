/-
  The document's own reader (narthexref2): Two, Var, Text; Text and Of of package octet.
-/
import Derived.Test.YtcobcgbpmkpljaaRRdr
namespace Go.Proofs.Ytcobcgbpmkpljaa
set_option linter.unusedVariables false
open Go.RowKit
set_option maxRecDepth 100000 in
theorem getS_nil : getS [] = (0, 0) := rfl
set_option maxRecDepth 100000 in
set_option maxHeartbeats 1000000 in
theorem rvar_any (p : Nat) (T : TypeId) (P : Nat → Prop) (s : St) (w : World) (hr : Rdr w p T P s) (hP : ∀ b, P b → b ≠ p) :
    Calls Try.prog 55 #[.pointer (some ⟨p, 0, none⟩)] w (NumPost .u64 w p T P (varR s) (varN s)) := by
  have hcs := getS_cases s.1 hr.byt
  obtain ⟨A, m, c, hA, hmc, hc, hAc, hrd, hbad⟩ := hr
  have hc' := hc
  unfold maxLen at hc'
  have hlen := hrd.len
  have c0 := hA.cell 0
  have c1 := hA.cell 1
  have f0 := hA.frozen 0
  have f1 := hA.frozen 1
  have hb0 : s.2 = true → (getS s.1).2 = 0 := fun h => by rw [hbad h, getS_nil]
  obtain ⟨x, hx⟩ : ∃ x, (getS s.1).1 = x := ⟨_, rfl⟩
  obtain ⟨z, hz⟩ : ∃ z, (getS s.1).2 = z := ⟨_, rfl⟩
  have hX0 : z = 0 → varR s = 0 := fun h => by unfold varR; rw [hz, if_pos h]
  have hX1 : z ≠ 0 → varR s = x := fun h => by unfold varR; rw [hz, hx, if_neg h]
  have hN0 : z = 0 → varN s = ([], true) := fun h => by unfold varN; rw [hz, if_pos h]
  have hN1 : z ≠ 0 → varN s = takeN s z := fun h => by unfold varN; rw [hz, if_neg h]
  rw [hx, hz] at hcs
  rw [hz] at hb0
  have GX := Lib.hid hx; have GZ := Lib.hid hz
  have H := Lib.hid hA
  clear hx hz hA
  obtain ⟨bs, bad⟩ := s
  rcases hcs with ⟨rfl, rfl⟩ | ⟨h1, h2, h3, h4, h5⟩
  · have RV := Lib.hid (hX0 rfl)
    have RN := Lib.hid (hN0 rfl)
    have HS := Lib.hid ((H.out.set 1 (.bool true)).set 0 (.slice none 0 0))
    clear hX0 hX1 hN0 hN1 hlen hb0 hbad
    cases bad
    all_goals
      go_enter Try.func55, Try.ntmps55
      go_wp2_with fail
      refine (rget_any A m c bs w _ hrd.1 hmc hc).mono ?_
      rintro e w' ⟨rfl, rfl⟩
      rw [GX.out, GZ.out]
      go_wp2_with fail
      go_ret
      exact ⟨by rw [RV.out]; rfl, by rw [RN.out]; exact Rdr.of_spoil HS.out, ((Kept.refl _ _).setAt _ _).setAt _ _⟩
  · have hz : (z == 0) = false := by simp; omega
    have hbf : bad = false := by
      cases bad with
      | false => rfl
      | true => have := hb0 rfl; omega
    subst hbf
    obtain ⟨k, rfl⟩ := Int.eq_ofNat_of_zero_le (show 0 ≤ z by omega)
    have hk : k ≤ m := by rw [← hlen]; show k ≤ bs.length; have : ((k : Nat) : Int) ≤ (bs.length : Int) := h3; omega
    have RV := Lib.hid (hX1 (by omega))
    have RN := Lib.hid (show varN (bs, false) = (bs.drop k, false) by
      rw [hN1 (by omega)]; unfold takeN; rw [if_pos ⟨by omega, h3⟩]; simp)
    have rd2 := Lib.hid (hrd.cutFrom hk hmc)
    have HL := Lib.hid hlen
    clear hX0 hX1 hN0 hN1 h3 hb0 hbad hlen
    cases A with
    | none =>
      obtain rfl := hAc rfl
      omega
    | some ad =>
      by_cases hck : c = k
      · obtain rfl := hck
        obtain rfl : m = c := by omega
        have HS := Lib.hid (H.out.set 0 (.slice (some ad) 0 0))
        go_enter Try.func55, Try.ntmps55
        go_wp2_with fail
        refine (rget_any (some ad) m m bs w _ hrd.1 hmc hc).mono ?_
        rintro e w' ⟨rfl, rfl⟩
        rw [GX.out, GZ.out]
        go_wp2_with fail
        go_ret
        exact ⟨by rw [RV.out]; rfl, by rw [RN.out]; exact ⟨_, _, _, HS.out, Nat.le_refl _, by unfold maxLen; omega, by simp, (by rw [show List.drop m bs = [] from List.drop_eq_nil_of_le (by rw [HL.out]; omega)]; exact RdP.none_ _ _ _), fun h => by cases h⟩, (Kept.refl _ _).setAt _ _⟩
      · have hcut : cutA (some ad) c k = some (ad.add k) := by simp [cutA, hck]
        have rd3 := Lib.hid (hcut ▸ rd2.out)
        have HS := Lib.hid (H.out.set 0 (.slice (some (ad.add k)) (m - k) (c - k)))
        clear hcut
        go_enter Try.func55, Try.ntmps55
        go_wp2_with fail
        refine (rget_any (some ad) m c bs w _ hrd.1 hmc hc).mono ?_
        rintro e w' ⟨rfl, rfl⟩
        rw [GX.out, GZ.out]
        go_wp2_with fail
        go_ret
        exact ⟨by rw [RV.out]; rfl, by rw [RN.out]; exact ⟨_, _, _, HS.out, by omega, by unfold maxLen; omega, by simp, rd3.out.kept ((Kept.refl _ _).setAt _ _) hP, fun h => by cases h⟩, (Kept.refl _ _).setAt _ _⟩
end Go.Proofs.Ytcobcgbpmkpljaa
