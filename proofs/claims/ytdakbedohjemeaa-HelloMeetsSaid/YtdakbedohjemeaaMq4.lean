/-
  Package octet's Reader: what each call answers of whatever bytes are left, and what is left behind it.
-/
import Derived.Test.YtdakbedohjemeaaProg
import Derived.Test.YtdakbedohjemeaaMq0
import Derived.Test.YtdakbedohjemeaaMq1
import Derived.Test.YtdakbedohjemeaaMq2
import Derived.Test.YtdakbedohjemeaaMq3
import Derived.Deep.QuietTactic
import Derived.BigQuiet
import Derived.WalkSpells
namespace Go.Proofs.Ytdakbedohjemeaa
section
set_option linter.unusedVariables false
open Go.RowKit
/-- What is left, and whether bytes lacked. -/
abbrev St := List Int × Bool
def takeR (s : St) (n : Int) : List Int := if 0 ≤ n ∧ n ≤ s.1.length then s.1.take n.toNat else []
def takeN (s : St) (n : Int) : St := if 0 ≤ n ∧ n ≤ s.1.length then (s.1.drop n.toNat, s.2) else ([], true)
def Rdr (w : World) (p : Nat) (T : TypeId) (P : Nat → Prop) (s : St) : Prop :=
  ∃ A n c, At w p T [.slice A n c, .bool s.2] ∧ n ≤ c ∧ c ≤ maxLen ∧ (A = none → c = 0) ∧ RdP w P A n s.1 ∧ (s.2 = true → s.1 = [])
theorem Rdr.kept {S : Nat → Prop} {w w' : World} {p : Nat} {T : TypeId} {P : Nat → Prop} {s : St} (h : Rdr w p T P s) (k : Kept S w w') (hp : ¬ S p) (hs : ∀ b, P b → ¬ S b) : Rdr w' p T P s := by
  obtain ⟨A, n, c, h1, h2, h3, h4, h5, h6⟩ := h
  exact ⟨A, n, c, h1.kept k hp, h2, h3, h4, h5.kept k hs, h6⟩
theorem spoil_any (p : Nat) (T : TypeId) (v0 v1 : Value) (w : World) (hA : At w p T [v0, v1]) :
    Calls Try.prog 83 #[.pointer (some ⟨p, 0, none⟩)] w fun e w' => e = .returned (.tuple #[]) ∧ At w' p T [.slice none 0 0, .bool true] ∧ Kept (· = p) w w' := by
  have c0 := hA.cell 0
  have c1 := hA.cell 1
  have f0 := hA.frozen 0
  have f1 := hA.frozen 1
  have hs := (hA.set 0 (.slice none 0 0)).set 1 (.bool true)
  have H := Lib.hid hA; clear hA
  have HS := Lib.hid hs; clear hs
  go_enter Try.func83, Try.ntmps83
  go_wp2
  go_end0
  exact ⟨rfl, HS.out, ((Kept.refl _ _).setAt _ _).setAt _ _⟩
theorem Rdr.of_spoil {w : World} {p : Nat} {T : TypeId} {P : Nat → Prop} (h : At w p T [.slice none 0 0, .bool true]) : Rdr w p T P ([], true) :=
  ⟨none, 0, 0, h, Nat.le_refl _, by unfold maxLen; omega, fun _ => rfl, RdP.none_ _ _ _, fun _ => rfl⟩
def TakePost (w : World) (p : Nat) (T : TypeId) (P : Nat → Prop) (s : St) (n : Int) (e : Ending) (w' : World) : Prop :=
  ∃ A k c, e = .returned (.slice A k c) ∧ k ≤ c ∧ c ≤ maxLen ∧ (A = none → c = 0) ∧ RdP w' P A k (takeR s n) ∧ Rdr w' p T P (takeN s n) ∧ Kept (· = p) w w'
set_option maxHeartbeats 1000000 in
theorem take_any (p : Nat) (T : TypeId) (P : Nat → Prop) (s : St) (n : Int) (w : World) (hr : Rdr w p T P s) (hP : ∀ b, P b → b ≠ p) :
    Calls Try.prog 72 #[.pointer (some ⟨p, 0, none⟩), .int .i64 n] w (TakePost w p T P s n) := by
  obtain ⟨A, m, c, hA, hmc, hc, hAc, hrd, hbad⟩ := hr
  have hc' := hc
  unfold maxLen at hc'
  have hlen := hrd.len
  have c0 := hA.cell 0
  have c1 := hA.cell 1
  have f0 := hA.frozen 0
  have f1 := hA.frozen 1
  by_cases hn : 0 ≤ n ∧ n ≤ m
  · obtain ⟨hn0, hn1⟩ := hn
    obtain ⟨k, rfl⟩ := Int.eq_ofNat_of_zero_le hn0
    have hk : k ≤ m := by omega
    have R1 := Lib.hid (show takeR s (k : Int) = s.1.take k by unfold takeR; rw [if_pos (by rw [hlen]; omega)]; simp)
    have R2 := Lib.hid (show takeN s (k : Int) = (s.1.drop k, s.2) by unfold takeN; rw [if_pos (by rw [hlen]; omega)]; simp)
    have rd1 := Lib.hid (hrd.cutTo hk)
    have rd2 := Lib.hid (hrd.cutFrom hk hmc)
    have H := Lib.hid hA
    have HL := Lib.hid hlen
    clear hA hlen hrd
    cases A with
    | none =>
      obtain rfl := hAc rfl
      obtain rfl : m = 0 := by omega
      obtain rfl : k = 0 := by omega
      clear hAc
      have hs := H.out.set 0 (.slice none 0 0)
      have HS := Lib.hid hs; clear hs
      go_enter Try.func72, Try.ntmps72
      go_wp2
      go_ret
      exact ⟨none, 0, 0, rfl, Nat.le_refl _, by unfold maxLen; omega, fun _ => rfl, by rw [R1.out]; exact (rd1.out.kept ((Kept.refl _ _).setAt _ _) hP), by rw [R2.out]; exact ⟨none, 0, 0, HS.out, Nat.le_refl _, by unfold maxLen; omega, fun _ => rfl, rd2.out.kept ((Kept.refl _ _).setAt _ _) hP, fun h => by simp [hbad h]⟩, (Kept.refl _ _).setAt _ _⟩
    | some ad =>
      by_cases hck : c = k
      · obtain rfl := hck
        obtain rfl : m = c := by omega
        have hs := H.out.set 0 (.slice (some ad) 0 0)
        have HS := Lib.hid hs; clear hs
        go_enter Try.func72, Try.ntmps72
        go_wp2
        go_ret
        exact ⟨some ad, _, _, rfl, Nat.le_refl _, hc, by simp, by rw [R1.out]; exact (rd1.out.kept ((Kept.refl _ _).setAt _ _) hP), by rw [R2.out]; exact ⟨some ad, 0, 0, HS.out, Nat.le_refl _, by unfold maxLen; omega, by simp, by rw [show List.drop m s.1 = [] from List.drop_eq_nil_of_le (by rw [HL.out]; omega)]; exact RdP.none_ _ _ _, fun h => by simp [hbad h]⟩, (Kept.refl _ _).setAt _ _⟩
      · have hs := H.out.set 0 (.slice (some (ad.add k)) (m - k) (c - k))
        have HS := Lib.hid hs; clear hs
        go_enter Try.func72, Try.ntmps72
        go_wp2
        go_ret
        have hcut : cutA (some ad) c k = some (ad.add k) := by simp [cutA, hck]
        exact ⟨some ad, _, _, rfl, by omega, hc, by simp, by rw [R1.out]; exact (rd1.out.kept ((Kept.refl _ _).setAt _ _) hP), by rw [R2.out]; exact ⟨_, _, _, HS.out, by omega, by unfold maxLen; omega, by simp, (hcut ▸ rd2.out).kept ((Kept.refl _ _).setAt _ _) hP, fun h => by simp [hbad h]⟩, (Kept.refl _ _).setAt _ _⟩
  · have R1 := Lib.hid (show takeR s n = [] by unfold takeR; rw [if_neg (by rw [hlen]; exact hn)])
    have R2 := Lib.hid (show takeN s n = ([], true) by unfold takeN; rw [if_neg (by rw [hlen]; exact hn)])
    have H := Lib.hid hA
    clear hA hlen hrd
    have hcase : n < 0 ∨ (0 ≤ n ∧ (m : Int) < n) := by omega
    clear hn
    rcases hcase with hn | ⟨hn0, hn1⟩
    · go_enter Try.func72, Try.ntmps72
      go_wp2_with (go_at_call 83; refine (spoil_any p T _ _ _ H.out).mono ?_; rintro e w' ⟨rfl, hA', hk'⟩)
      go_ret
      exact ⟨none, 0, 0, rfl, Nat.le_refl _, by unfold maxLen; omega, fun _ => rfl, by rw [R1.out]; exact RdP.none_ _ _ _, by rw [R2.out]; exact Rdr.of_spoil hA', hk'⟩
    · go_enter Try.func72, Try.ntmps72
      go_wp2_with (go_at_call 83; refine (spoil_any p T _ _ _ H.out).mono ?_; rintro e w' ⟨rfl, hA', hk'⟩)
      go_ret
      exact ⟨none, 0, 0, rfl, Nat.le_refl _, by unfold maxLen; omega, fun _ => rfl, by rw [R1.out]; exact RdP.none_ _ _ _, by rw [R2.out]; exact Rdr.of_spoil hA', hk'⟩
theorem clone_any (A : Option Addr) (n c : Nat) (bs : List Int) (w : World) (hr : Rd w w.heap.size A n bs) (hc : n ≤ 140737488355000) (hA : A = none → c = 0) :
    Calls Try.prog 71 #[.slice A n c] w fun e w' => ∃ v, e = .returned v ∧ Own w' w.heap.size 5 v bs ∧ Below w.heap.size w w' := by
  obtain ⟨i0, hi, hz0, hz1, hz2⟩ := info_parts u8_info
  cases A with
  | none =>
    obtain rfl := hA rfl
    have hn : n = 0 := by
      rcases Nat.eq_zero_or_pos n with h0 | h0
      · exact h0
      · obtain ⟨b, off, h, _⟩ := hr.2.2 h0
        cases h
    subst hn
    obtain rfl := hr.zero
    clear hA
    have he := fun W : World => Lib.run_eql_slice_nil (P := Try.prog) W 31 5 none 0 0 0 0 Try.underlying31
    go_enter Try.func71, Try.ntmps71
    go_wp2
    go_ret
    exact ⟨_, rfl, Own.none_ _ _ _, Below.refl _ _⟩
  | some ad =>
    clear hA
    have he := fun W : World => Lib.run_eql_slice_nil (P := Try.prog) W 31 5 (some ad) n c 0 0 Try.underlying31
    go_enter Try.func71, Try.ntmps71
    go_wp2_with (at_builtin; refine wpList_append_rd rfl (.tmp 5) (.tmp 6) 31 rfl w.heap.size 5 i0 Try.underlying31 hi hz0 hz1 hz2 _ [] rfl (Own.of_block (n := 0) (cap := 0) Byt.nil rfl (heap_alloc_new w _) (Nat.le_refl _) (Nat.le_refl _) (Nat.zero_le _) rfl rfl) _ (some ad) n c bs rfl (hr.alloc (Nat.le_refl _) _) (by simp; omega) w ((Below.refl _ _).alloc (Nat.le_refl _) _) (by simp) ?_; intro v2 w2 hown2 hb2 hgr2)
    go_ret
    exact ⟨_, rfl, hown2, hb2⟩
def RawPost (w : World) (p : Nat) (T : TypeId) (P : Nat → Prop) (bs : List Int) (s' : St) (e : Ending) (w' : World) : Prop :=
  ∃ v, e = .returned v ∧ Own w' w.heap.size 5 v bs ∧ Rdr w' p T P s' ∧ Kept (· = p) w w'
def NumPost (k : IntKind) (w : World) (p : Nat) (T : TypeId) (P : Nat → Prop) (x : Int) (s' : St) (e : Ending) (w' : World) : Prop :=
  e = .returned (.int k x) ∧ Rdr w' p T P s' ∧ Kept (· = p) w w'
theorem takeR_le (s : St) (n : Int) : (takeR s n).length ≤ s.1.length := by
  unfold takeR
  split
  · exact List.length_take_le' _ _
  · simp
theorem raw_any (p : Nat) (T : TypeId) (P : Nat → Prop) (s : St) (n : Int) (w : World) (hr : Rdr w p T P s) (hP : ∀ b, P b → b ≠ p) (hl : s.1.length ≤ 140737488355000) :
    Calls Try.prog 74 #[.pointer (some ⟨p, 0, none⟩), .int .i64 n] w (RawPost w p T P (takeR s n) (takeN s n)) := by
  have hle := takeR_le s n
  go_enter Try.func74, Try.ntmps74
  go_wp2_with fail
  refine (take_any p T P s n w hr hP).mono ?_
  rintro e w1 ⟨A, k, c, rfl, hkc, hc, hA, hrd, hr', hk'⟩
  go_wp2_with fail
  refine (clone_any A k c (takeR s n) w1 hrd.1 (by rw [← hrd.len]; omega) hA).mono ?_
  rintro e w2 ⟨v, rfl, hown, hb⟩
  have hk2 := Kept.of_below hb (fun _ => False)
  go_wp2_with fail
  go_ret
  exact ⟨v, rfl, hown.base_ hk'.size, hr'.kept hk2 (fun h => h) (fun _ _ h => h), hk'.trans' hk2 (fun _ h => h.elim)⟩
theorem bad_any (p : Nat) (T : TypeId) (P : Nat → Prop) (s : St) (w : World) (hr : Rdr w p T P s) :
    Calls Try.prog 91 #[.pointer (some ⟨p, 0, none⟩)] w fun e w' => e = .returned (.bool s.2) ∧ w = w' := by
  obtain ⟨A, m, c, hA, hmc, hc, hAc, hrd, hbad⟩ := hr
  have c1 := hA.cell 1
  go_enter Try.func91, Try.ntmps91
  go_wp2
  go_ret
  exact ⟨rfl, rfl⟩
theorem left_any (p : Nat) (T : TypeId) (P : Nat → Prop) (s : St) (w : World) (hr : Rdr w p T P s) :
    Calls Try.prog 58 #[.pointer (some ⟨p, 0, none⟩)] w fun e w' => e = .returned (.int .i64 s.1.length) ∧ w = w' := by
  obtain ⟨A, m, c, hA, hmc, hc, hAc, hrd, hbad⟩ := hr
  have c1 := hA.cell 0
  have HL := Lib.hid hrd.len
  go_enter Try.func58, Try.ntmps58
  go_wp2
  go_ret
  exact ⟨by rw [HL.out]; rfl, rfl⟩
def varR (s : St) : Int := if (getS s.1).2 = 0 then 0 else (getS s.1).1
def varN (s : St) : St := if (getS s.1).2 = 0 then ([], true) else takeN s (getS s.1).2
def byteR (s : St) : Int := (takeR s 1).getD 0 0
def twoR (s : St) : Int := (takeR s 2).getD 0 0 * 256 + (takeR s 2).getD 1 0
def textR (s : St) : List Int := takeR (varN s) (varR s)
def textN (s : St) : St := takeN (varN s) (varR s)
theorem getS_cases (bs : List Int) (hb : Byt bs) : ((getS bs).2 = 0 ∧ (getS bs).1 = 0) ∨ (1 ≤ (getS bs).2 ∧ (getS bs).2 ≤ 8 ∧ (getS bs).2 ≤ bs.length ∧ 0 ≤ (getS bs).1 ∧ (getS bs).1 ≤ 4611686018427387903) := by
  by_cases hn : bs = []
  · left; subst hn; simp [getS]
  · rcases Nat.lt_or_ge bs.length (szS (bs.getD 0 0)) with h | h
    · left; rw [get_short bs hn h]; simp
    · right
      have hs := szS_bd (bs.getD 0 0)
      rw [get_full bs hn h]
      have h0 := hb.getD 0
      have hl : ((bs.take (szS (bs.getD 0 0))).drop 1).length ≤ 7 := by rw [List.length_drop, List.length_take]; omega
      have hf := foldS_bd ((bs.take (szS (bs.getD 0 0))).drop 1) (bs.getD 0 0 % 64) ((hb.take _).drop 1) (by omega) 64 (by omega)
      have h1 : (256 : Nat) ^ ((bs.take (szS (bs.getD 0 0))).drop 1).length ≤ 256 ^ 7 := Nat.pow_le_pow_right (by decide) hl
      have h2 : ((256 : Int) ^ ((bs.take (szS (bs.getD 0 0))).drop 1).length) = ((256 ^ ((bs.take (szS (bs.getD 0 0))).drop 1).length : Nat) : Int) := by simp
      rw [h2] at hf
      refine ⟨?_, ?_, ?_, hf.1, ?_⟩
      · show (1 : Int) ≤ ((szS (bs.getD 0 0) : Nat) : Int); omega
      · show ((szS (bs.getD 0 0) : Nat) : Int) ≤ 8; omega
      · show ((szS (bs.getD 0 0) : Nat) : Int) ≤ _; omega
      · show foldS _ _ ≤ _
        have h3 : (((256 : Nat) ^ ((bs.take (szS (bs.getD 0 0))).drop 1).length : Nat) : Int) ≤ 72057594037927936 := by omega
        omega
theorem varR_bd (s : St) (hb : Byt s.1) : 0 ≤ varR s ∧ varR s ≤ 4611686018427387903 := by
  unfold varR
  rcases getS_cases s.1 hb with ⟨h, h'⟩ | ⟨h1, h2, h3, h4, h5⟩
  · rw [if_pos h]; omega
  · rw [if_neg (by omega)]; exact ⟨h4, h5⟩
theorem Rdr.byt {w : World} {p : Nat} {T : TypeId} {P : Nat → Prop} {s : St} (h : Rdr w p T P s) : Byt s.1 := by
  obtain ⟨A, n, c, h1, h2, h3, h4, h5, h6⟩ := h; exact h5.byt
theorem var_any (p : Nat) (T : TypeId) (P : Nat → Prop) (s : St) (w : World) (hr : Rdr w p T P s) (hP : ∀ b, P b → b ≠ p) :
    Calls Try.prog 89 #[.pointer (some ⟨p, 0, none⟩)] w (NumPost .u64 w p T P (varR s) (varN s)) := by
  have hcs := getS_cases s.1 hr.byt
  have HR := Lib.hid hr
  obtain ⟨A, m, c, hA, hmc, hc, hAc, hrd, hbad⟩ := hr
  have c0 := hA.cell 0
  have H := Lib.hid hA; clear hA
  obtain ⟨x, hx⟩ : ∃ x, (getS s.1).1 = x := ⟨_, rfl⟩
  obtain ⟨z, hz⟩ : ∃ z, (getS s.1).2 = z := ⟨_, rfl⟩
  have hX0 : z = 0 → varR s = 0 := fun h => by unfold varR; rw [hz, if_pos h]
  have hX1 : z ≠ 0 → varR s = x := fun h => by unfold varR; rw [hz, hx, if_neg h]
  have hN0 : z = 0 → varN s = ([], true) := fun h => by unfold varN; rw [hz, if_pos h]
  have hN1 : z ≠ 0 → varN s = takeN s z := fun h => by unfold varN; rw [hz, if_neg h]
  rw [hx, hz] at hcs
  have GX := Lib.hid hx; have GZ := Lib.hid hz
  clear hx hz
  rcases hcs with ⟨rfl, rfl⟩ | ⟨h1, h2, h3, h4, h5⟩
  · have RV := Lib.hid (hX0 rfl)
    have RN := Lib.hid (hN0 rfl)
    clear hX0 hX1 hN0 hN1
    go_enter Try.func89, Try.ntmps89
    go_wp2_with fail
    refine (get_any A m c s.1 w _ hrd.1 hmc hc).mono ?_
    rintro e w' ⟨rfl, rfl⟩
    rw [GX.out, GZ.out]
    go_wp2_with fail
    refine (spoil_any p T _ _ w H.out).mono ?_
    rintro e w1 ⟨rfl, hA', hk'⟩
    go_wp2_with fail
    go_ret
    exact ⟨by rw [RV.out]; rfl, by rw [RN.out]; exact Rdr.of_spoil hA', hk'⟩
  · have hz : (z == 0) = false := by simp; omega
    have RV := Lib.hid (hX1 (by omega))
    have RN := Lib.hid (hN1 (by omega))
    clear hX0 hX1 hN0 hN1
    go_enter Try.func89, Try.ntmps89
    go_wp2_with fail
    refine (get_any A m c s.1 w _ hrd.1 hmc hc).mono ?_
    rintro e w' ⟨rfl, rfl⟩
    rw [GX.out, GZ.out]
    go_wp2_with fail
    refine (take_any p T P s z w HR.out hP).mono ?_
    rintro e w1 ⟨A', k', c', rfl, hkc', hc', hA', hrd', hr', hk'⟩
    go_wp2_with fail
    go_ret
    exact ⟨by rw [RV.out]; rfl, by rw [RN.out]; exact hr', hk'⟩
theorem byte_any (p : Nat) (T : TypeId) (P : Nat → Prop) (s : St) (w : World) (hr : Rdr w p T P s) (hP : ∀ b, P b → b ≠ p) :
    Calls Try.prog 56 #[.pointer (some ⟨p, 0, none⟩)] w (NumPost .u8 w p T P (byteR s) (takeN s 1)) := by
  have RV := Lib.hid (show byteR s = (takeR s 1).getD 0 0 from rfl)
  go_enter Try.func56, Try.ntmps56
  go_wp2_with fail
  refine (take_any p T P s 1 w hr hP).mono ?_
  rintro e w1 ⟨A, k, c, rfl, hkc, hc, hA, hrd, hr', hk'⟩
  have hlen := hrd.len
  have hk1 : k = 1 ∨ k = 0 := by
    rw [← hlen]; unfold takeR; split <;> simp; omega
  obtain ⟨T1, hT1⟩ : ∃ T1, takeR s 1 = T1 := ⟨_, rfl⟩
  rw [hT1] at hrd hlen RV
  clear hT1
  unfold maxLen at hc
  rcases hk1 with rfl | rfl
  · obtain ⟨b, off, rfl, hb, hcell⟩ := hrd.1.2.2 (by omega)
    have c1 := hcell 0 (by omega)
    rw [Nat.add_zero] at c1
    clear hcell hA hr hlen
    go_wp2_with fail
    go_ret
    exact ⟨by rw [RV.out]; rfl, hr', hk'⟩
  · have hT : T1 = [] := List.eq_nil_of_length_eq_zero hlen
    rw [hT] at RV
    clear hr hlen hT hrd
    go_wp2_with fail
    go_ret
    exact ⟨by rw [RV.out]; rfl, hr', hk'⟩
end
section
set_option linter.unusedVariables false
open Go.RowKit
end
end Go.Proofs.Ytdakbedohjemeaa
