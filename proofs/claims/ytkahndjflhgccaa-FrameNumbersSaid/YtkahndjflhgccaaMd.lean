/-
  Package octet's Reader: what each call answers of whatever bytes are left, and what is left behind it.
-/
import Derived.Test.YtkahndjflhgccaaProg
import Derived.Test.YtkahndjflhgccaaMc
import Derived.Test.YtkahndjflhgccaaMa
import Derived.Test.YtkahndjflhgccaaMb
import Derived.Deep.QuietTactic
import Derived.BigQuiet
import Derived.WalkSpells
import Derived.Laws.CopyOwn
namespace Go.Proofs.Ytkahndjflhgccaa
section
set_option linter.unusedVariables false
open Go.RowKit
/-- What is left, and whether bytes lacked. -/
abbrev St := List Int × Bool
def takeR (s : St) (n : Int) : List Int := if 0 ≤ n ∧ n ≤ s.1.length then s.1.take n.toNat else []
def takeN (s : St) (n : Int) : St := if 0 ≤ n ∧ n ≤ s.1.length then (s.1.drop n.toNat, s.2) else ([], true)
def Rdr (w : World) (p : Nat) (T : TypeId) (P : Nat → Prop) (s : St) : Prop :=
  ∃ A n c, At w p T [.slice A n c, .bool s.2] ∧ n ≤ c ∧ c ≤ maxLen ∧ (A = none → c = 0) ∧ RdP w P A n s.1 ∧ (s.2 = true → s.1 = [])
theorem Rdr.kept {S : Nat → Prop} {w w' : World} {p : Nat} {T : TypeId} {P : Nat → Prop} {s : St} (h : Rdr w p T P s) (k : Kept S w w') (hp : ¬ S p) (hs : ∀ b, P b → ¬ S b) : Rdr w' p T P s := by
  obtain ⟨A, n, c, h1, h2, h3, h4, h5, h6⟩ := h
  exact ⟨A, n, c, h1.kept k hp, h2, h3, h4, h5.kept k hs, h6⟩
theorem spoil_any (p : Nat) (T : TypeId) (v0 v1 : Value) (w : World) (hA : At w p T [v0, v1]) :
    Calls Try.prog 80 #[.pointer (some ⟨p, 0, none⟩)] w fun e w' => e = .returned (.tuple #[]) ∧ At w' p T [.slice none 0 0, .bool true] ∧ Kept (· = p) w w' := by
  have c0 := hA.cell 0
  have c1 := hA.cell 1
  have f0 := hA.frozen 0
  have f1 := hA.frozen 1
  have hs := (hA.set 0 (.slice none 0 0)).set 1 (.bool true)
  have H := Lib.hid hA; clear hA
  have HS := Lib.hid hs; clear hs
  go_enter Try.func80, Try.ntmps80
  go_wp2
  go_end0
  exact ⟨rfl, HS.out, ((Kept.refl _ _).setAt _ _).setAt _ _⟩
theorem Rdr.of_spoil {w : World} {p : Nat} {T : TypeId} {P : Nat → Prop} (h : At w p T [.slice none 0 0, .bool true]) : Rdr w p T P ([], true) :=
  ⟨none, 0, 0, h, Nat.le_refl _, by unfold maxLen; omega, fun _ => rfl, RdP.none_ _ _ _, fun _ => rfl⟩
def TakePost (w : World) (p : Nat) (T : TypeId) (P : Nat → Prop) (s : St) (n : Int) (e : Ending) (w' : World) : Prop :=
  ∃ A k c, e = .returned (.slice A k c) ∧ k ≤ c ∧ c ≤ maxLen ∧ (A = none → c = 0) ∧ RdP w' P A k (takeR s n) ∧ Rdr w' p T P (takeN s n) ∧ Kept (· = p) w w'
set_option maxHeartbeats 1000000 in
theorem take_any (p : Nat) (T : TypeId) (P : Nat → Prop) (s : St) (n : Int) (w : World) (hr : Rdr w p T P s) (hP : ∀ b, P b → b ≠ p) :
    Calls Try.prog 81 #[.pointer (some ⟨p, 0, none⟩), .int .i64 n] w (TakePost w p T P s n) := by
  obtain ⟨A, m, c, hA, hmc, hc, hAc, hrd, hbad⟩ := hr
  have hc' := hc
  unfold maxLen at hc'
  have hlen := hrd.len
  have c0 := hA.cell 0
  have c1 := hA.cell 1
  have f0 := hA.frozen 0
  have f1 := hA.frozen 1
  by_cases hn : 0 ≤ n ∧ n ≤ m
  · obtain ⟨hn0, hn1⟩ := hn
    obtain ⟨k, rfl⟩ := Int.eq_ofNat_of_zero_le hn0
    have hk : k ≤ m := by omega
    have R1 := Lib.hid (show takeR s (k : Int) = s.1.take k by unfold takeR; rw [if_pos (by rw [hlen]; omega)]; simp)
    have R2 := Lib.hid (show takeN s (k : Int) = (s.1.drop k, s.2) by unfold takeN; rw [if_pos (by rw [hlen]; omega)]; simp)
    have rd1 := Lib.hid (hrd.cutTo hk)
    have rd2 := Lib.hid (hrd.cutFrom hk hmc)
    have H := Lib.hid hA
    have HL := Lib.hid hlen
    clear hA hlen hrd
    cases A with
    | none =>
      obtain rfl := hAc rfl
      obtain rfl : m = 0 := by omega
      obtain rfl : k = 0 := by omega
      clear hAc
      have hs := H.out.set 0 (.slice none 0 0)
      have HS := Lib.hid hs; clear hs
      go_enter Try.func81, Try.ntmps81
      go_wp2
      go_ret
      exact ⟨none, 0, 0, rfl, Nat.le_refl _, by unfold maxLen; omega, fun _ => rfl, by rw [R1.out]; exact (rd1.out.kept ((Kept.refl _ _).setAt _ _) hP), by rw [R2.out]; exact ⟨none, 0, 0, HS.out, Nat.le_refl _, by unfold maxLen; omega, fun _ => rfl, rd2.out.kept ((Kept.refl _ _).setAt _ _) hP, fun h => by simp [hbad h]⟩, (Kept.refl _ _).setAt _ _⟩
    | some ad =>
      by_cases hck : c = k
      · obtain rfl := hck
        obtain rfl : m = c := by omega
        have hs := H.out.set 0 (.slice (some ad) 0 0)
        have HS := Lib.hid hs; clear hs
        go_enter Try.func81, Try.ntmps81
        go_wp2
        go_ret
        exact ⟨some ad, _, _, rfl, Nat.le_refl _, hc, by simp, by rw [R1.out]; exact (rd1.out.kept ((Kept.refl _ _).setAt _ _) hP), by rw [R2.out]; exact ⟨some ad, 0, 0, HS.out, Nat.le_refl _, by unfold maxLen; omega, by simp, by rw [show List.drop m s.1 = [] from List.drop_eq_nil_of_le (by rw [HL.out]; omega)]; exact RdP.none_ _ _ _, fun h => by simp [hbad h]⟩, (Kept.refl _ _).setAt _ _⟩
      · have hs := H.out.set 0 (.slice (some (ad.add k)) (m - k) (c - k))
        have HS := Lib.hid hs; clear hs
        go_enter Try.func81, Try.ntmps81
        go_wp2
        go_ret
        have hcut : cutA (some ad) c k = some (ad.add k) := by simp [cutA, hck]
        exact ⟨some ad, _, _, rfl, by omega, hc, by simp, by rw [R1.out]; exact (rd1.out.kept ((Kept.refl _ _).setAt _ _) hP), by rw [R2.out]; exact ⟨_, _, _, HS.out, by omega, by unfold maxLen; omega, by simp, (hcut ▸ rd2.out).kept ((Kept.refl _ _).setAt _ _) hP, fun h => by simp [hbad h]⟩, (Kept.refl _ _).setAt _ _⟩
  · have R1 := Lib.hid (show takeR s n = [] by unfold takeR; rw [if_neg (by rw [hlen]; exact hn)])
    have R2 := Lib.hid (show takeN s n = ([], true) by unfold takeN; rw [if_neg (by rw [hlen]; exact hn)])
    have H := Lib.hid hA
    clear hA hlen hrd
    have hcase : n < 0 ∨ (0 ≤ n ∧ (m : Int) < n) := by omega
    clear hn
    rcases hcase with hn | ⟨hn0, hn1⟩
    · go_enter Try.func81, Try.ntmps81
      go_wp2_with (go_at_call 80; refine (spoil_any p T _ _ _ H.out).mono ?_; rintro e w' ⟨rfl, hA', hk'⟩)
      go_ret
      exact ⟨none, 0, 0, rfl, Nat.le_refl _, by unfold maxLen; omega, fun _ => rfl, by rw [R1.out]; exact RdP.none_ _ _ _, by rw [R2.out]; exact Rdr.of_spoil hA', hk'⟩
    · go_enter Try.func81, Try.ntmps81
      go_wp2_with (go_at_call 80; refine (spoil_any p T _ _ _ H.out).mono ?_; rintro e w' ⟨rfl, hA', hk'⟩)
      go_ret
      exact ⟨none, 0, 0, rfl, Nat.le_refl _, by unfold maxLen; omega, fun _ => rfl, by rw [R1.out]; exact RdP.none_ _ _ _, by rw [R2.out]; exact Rdr.of_spoil hA', hk'⟩
theorem clone_any (A : Option Addr) (n c : Nat) (bs : List Int) (w : World) (hr : Rd w w.heap.size A n bs) (hc : n ≤ 140737488355000) (hA : A = none → c = 0) :
    Calls Try.prog 49 #[.slice A n c] w fun e w' => ∃ v, e = .returned v ∧ Own w' w.heap.size 5 v bs ∧ Below w.heap.size w w' := by
  obtain ⟨i0, hi, hz0, hz1, hz2⟩ := info_parts u8_info
  cases A with
  | none =>
    obtain rfl := hA rfl
    have hn : n = 0 := by
      rcases Nat.eq_zero_or_pos n with h0 | h0
      · exact h0
      · obtain ⟨b, off, h, _⟩ := hr.2.2 h0
        cases h
    subst hn
    obtain rfl := hr.zero
    clear hA
    have he := fun W : World => Lib.run_eql_slice_nil (P := Try.prog) W 26 5 none 0 0 0 0 Try.underlying26
    go_enter Try.func49, Try.ntmps49
    go_wp2
    go_ret
    exact ⟨_, rfl, Own.none_ _ _ _, Below.refl _ _⟩
  | some ad =>
    clear hA
    have he := fun W : World => Lib.run_eql_slice_nil (P := Try.prog) W 26 5 (some ad) n c 0 0 Try.underlying26
    go_enter Try.func49, Try.ntmps49
    go_wp2_with (at_builtin; refine wpList_append_rd rfl (.tmp 5) (.tmp 6) 26 rfl w.heap.size 5 i0 Try.underlying26 hi hz0 hz1 hz2 _ [] rfl (Own.of_block (n := 0) (cap := 0) Byt.nil rfl (heap_alloc_new w _) (Nat.le_refl _) (Nat.le_refl _) (Nat.zero_le _) rfl rfl) _ (some ad) n c bs rfl (hr.alloc (Nat.le_refl _) _) (by simp; omega) w ((Below.refl _ _).alloc (Nat.le_refl _) _) (by simp) ?_; intro v2 w2 hown2 hb2 hgr2)
    go_ret
    exact ⟨_, rfl, hown2, hb2⟩
def RawPost (w : World) (p : Nat) (T : TypeId) (P : Nat → Prop) (bs : List Int) (s' : St) (e : Ending) (w' : World) : Prop :=
  ∃ v, e = .returned v ∧ Own w' w.heap.size 5 v bs ∧ Rdr w' p T P s' ∧ Kept (· = p) w w'
def NumPost (k : IntKind) (w : World) (p : Nat) (T : TypeId) (P : Nat → Prop) (x : Int) (s' : St) (e : Ending) (w' : World) : Prop :=
  e = .returned (.int k x) ∧ Rdr w' p T P s' ∧ Kept (· = p) w w'
theorem takeR_le (s : St) (n : Int) : (takeR s n).length ≤ s.1.length := by
  unfold takeR
  split
  · exact List.length_take_le' _ _
  · simp
theorem raw_any (p : Nat) (T : TypeId) (P : Nat → Prop) (s : St) (n : Int) (w : World) (hr : Rdr w p T P s) (hP : ∀ b, P b → b ≠ p) (hl : s.1.length ≤ 140737488355000) :
    Calls Try.prog 83 #[.pointer (some ⟨p, 0, none⟩), .int .i64 n] w (RawPost w p T P (takeR s n) (takeN s n)) := by
  have hle := takeR_le s n
  go_enter Try.func83, Try.ntmps83
  go_wp2_with fail
  refine (take_any p T P s n w hr hP).mono ?_
  rintro e w1 ⟨A, k, c, rfl, hkc, hc, hA, hrd, hr', hk'⟩
  go_wp2_with fail
  refine (clone_any A k c (takeR s n) w1 hrd.1 (by rw [← hrd.len]; omega) hA).mono ?_
  rintro e w2 ⟨v, rfl, hown, hb⟩
  have hk2 := Kept.of_below hb (fun _ => False)
  go_wp2_with fail
  go_ret
  exact ⟨v, rfl, hown.base_ hk'.size, hr'.kept hk2 (fun h => h) (fun _ _ h => h), hk'.trans' hk2 (fun _ h => h.elim)⟩
theorem bad_any (p : Nat) (T : TypeId) (P : Nat → Prop) (s : St) (w : World) (hr : Rdr w p T P s) :
    Calls Try.prog 74 #[.pointer (some ⟨p, 0, none⟩)] w fun e w' => e = .returned (.bool s.2) ∧ w = w' := by
  obtain ⟨A, m, c, hA, hmc, hc, hAc, hrd, hbad⟩ := hr
  have c1 := hA.cell 1
  go_enter Try.func74, Try.ntmps74
  go_wp2
  go_ret
  exact ⟨rfl, rfl⟩
theorem left_any (p : Nat) (T : TypeId) (P : Nat → Prop) (s : St) (w : World) (hr : Rdr w p T P s) :
    Calls Try.prog 44 #[.pointer (some ⟨p, 0, none⟩)] w fun e w' => e = .returned (.int .i64 s.1.length) ∧ w = w' := by
  obtain ⟨A, m, c, hA, hmc, hc, hAc, hrd, hbad⟩ := hr
  have c1 := hA.cell 0
  have HL := Lib.hid hrd.len
  go_enter Try.func44, Try.ntmps44
  go_wp2
  go_ret
  exact ⟨by rw [HL.out]; rfl, rfl⟩
def varR (s : St) : Int := if (getS s.1).2 = 0 then 0 else (getS s.1).1
def varN (s : St) : St := if (getS s.1).2 = 0 then ([], true) else takeN s (getS s.1).2
def byteR (s : St) : Int := (takeR s 1).getD 0 0
def textR (s : St) : List Int := takeR (varN s) (varR s)
def textN (s : St) : St := takeN (varN s) (varR s)
theorem getS_cases (bs : List Int) (hb : Byt bs) : ((getS bs).2 = 0 ∧ (getS bs).1 = 0) ∨ (1 ≤ (getS bs).2 ∧ (getS bs).2 ≤ 8 ∧ (getS bs).2 ≤ bs.length ∧ 0 ≤ (getS bs).1 ∧ (getS bs).1 ≤ 4611686018427387903) := by
  by_cases hn : bs = []
  · left; subst hn; simp [getS]
  · rcases Nat.lt_or_ge bs.length (szS (bs.getD 0 0)) with h | h
    · left; rw [get_short bs hn h]; simp
    · right
      have hs := szS_bd (bs.getD 0 0)
      rw [get_full bs hn h]
      have h0 := hb.getD 0
      have hl : ((bs.take (szS (bs.getD 0 0))).drop 1).length ≤ 7 := by rw [List.length_drop, List.length_take]; omega
      have hf := foldS_bd ((bs.take (szS (bs.getD 0 0))).drop 1) (bs.getD 0 0 % 64) ((hb.take _).drop 1) (by omega) 64 (by omega)
      have h1 : (256 : Nat) ^ ((bs.take (szS (bs.getD 0 0))).drop 1).length ≤ 256 ^ 7 := Nat.pow_le_pow_right (by decide) hl
      have h2 : ((256 : Int) ^ ((bs.take (szS (bs.getD 0 0))).drop 1).length) = ((256 ^ ((bs.take (szS (bs.getD 0 0))).drop 1).length : Nat) : Int) := by simp
      rw [h2] at hf
      refine ⟨?_, ?_, ?_, hf.1, ?_⟩
      · show (1 : Int) ≤ ((szS (bs.getD 0 0) : Nat) : Int); omega
      · show ((szS (bs.getD 0 0) : Nat) : Int) ≤ 8; omega
      · show ((szS (bs.getD 0 0) : Nat) : Int) ≤ _; omega
      · show foldS _ _ ≤ _
        have h3 : (((256 : Nat) ^ ((bs.take (szS (bs.getD 0 0))).drop 1).length : Nat) : Int) ≤ 72057594037927936 := by omega
        omega
theorem varR_bd (s : St) (hb : Byt s.1) : 0 ≤ varR s ∧ varR s ≤ 4611686018427387903 := by
  unfold varR
  rcases getS_cases s.1 hb with ⟨h, h'⟩ | ⟨h1, h2, h3, h4, h5⟩
  · rw [if_pos h]; omega
  · rw [if_neg (by omega)]; exact ⟨h4, h5⟩
theorem Rdr.byt {w : World} {p : Nat} {T : TypeId} {P : Nat → Prop} {s : St} (h : Rdr w p T P s) : Byt s.1 := by
  obtain ⟨A, n, c, h1, h2, h3, h4, h5, h6⟩ := h; exact h5.byt
theorem var_any (p : Nat) (T : TypeId) (P : Nat → Prop) (s : St) (w : World) (hr : Rdr w p T P s) (hP : ∀ b, P b → b ≠ p) :
    Calls Try.prog 68 #[.pointer (some ⟨p, 0, none⟩)] w (NumPost .u64 w p T P (varR s) (varN s)) := by
  have hcs := getS_cases s.1 hr.byt
  have HR := Lib.hid hr
  obtain ⟨A, m, c, hA, hmc, hc, hAc, hrd, hbad⟩ := hr
  have c0 := hA.cell 0
  have H := Lib.hid hA; clear hA
  obtain ⟨x, hx⟩ : ∃ x, (getS s.1).1 = x := ⟨_, rfl⟩
  obtain ⟨z, hz⟩ : ∃ z, (getS s.1).2 = z := ⟨_, rfl⟩
  have hX0 : z = 0 → varR s = 0 := fun h => by unfold varR; rw [hz, if_pos h]
  have hX1 : z ≠ 0 → varR s = x := fun h => by unfold varR; rw [hz, hx, if_neg h]
  have hN0 : z = 0 → varN s = ([], true) := fun h => by unfold varN; rw [hz, if_pos h]
  have hN1 : z ≠ 0 → varN s = takeN s z := fun h => by unfold varN; rw [hz, if_neg h]
  rw [hx, hz] at hcs
  have GX := Lib.hid hx; have GZ := Lib.hid hz
  clear hx hz
  rcases hcs with ⟨rfl, rfl⟩ | ⟨h1, h2, h3, h4, h5⟩
  · have RV := Lib.hid (hX0 rfl)
    have RN := Lib.hid (hN0 rfl)
    clear hX0 hX1 hN0 hN1
    go_enter Try.func68, Try.ntmps68
    go_wp2_with fail
    refine (get_any A m c s.1 w _ hrd.1 hmc hc).mono ?_
    rintro e w' ⟨rfl, rfl⟩
    rw [GX.out, GZ.out]
    go_wp2_with fail
    refine (spoil_any p T _ _ w H.out).mono ?_
    rintro e w1 ⟨rfl, hA', hk'⟩
    go_wp2_with fail
    go_ret
    exact ⟨by rw [RV.out]; rfl, by rw [RN.out]; exact Rdr.of_spoil hA', hk'⟩
  · have hz : (z == 0) = false := by simp; omega
    have RV := Lib.hid (hX1 (by omega))
    have RN := Lib.hid (hN1 (by omega))
    clear hX0 hX1 hN0 hN1
    go_enter Try.func68, Try.ntmps68
    go_wp2_with fail
    refine (get_any A m c s.1 w _ hrd.1 hmc hc).mono ?_
    rintro e w' ⟨rfl, rfl⟩
    rw [GX.out, GZ.out]
    go_wp2_with fail
    refine (take_any p T P s z w HR.out hP).mono ?_
    rintro e w1 ⟨A', k', c', rfl, hkc', hc', hA', hrd', hr', hk'⟩
    go_wp2_with fail
    go_ret
    exact ⟨by rw [RV.out]; rfl, by rw [RN.out]; exact hr', hk'⟩
theorem byte_any (p : Nat) (T : TypeId) (P : Nat → Prop) (s : St) (w : World) (hr : Rdr w p T P s) (hP : ∀ b, P b → b ≠ p) :
    Calls Try.prog 72 #[.pointer (some ⟨p, 0, none⟩)] w (NumPost .u8 w p T P (byteR s) (takeN s 1)) := by
  have RV := Lib.hid (show byteR s = (takeR s 1).getD 0 0 from rfl)
  go_enter Try.func72, Try.ntmps72
  go_wp2_with fail
  refine (take_any p T P s 1 w hr hP).mono ?_
  rintro e w1 ⟨A, k, c, rfl, hkc, hc, hA, hrd, hr', hk'⟩
  have hlen := hrd.len
  have hk1 : k = 1 ∨ k = 0 := by
    rw [← hlen]; unfold takeR; split <;> simp; omega
  obtain ⟨T1, hT1⟩ : ∃ T1, takeR s 1 = T1 := ⟨_, rfl⟩
  rw [hT1] at hrd hlen RV
  clear hT1
  unfold maxLen at hc
  rcases hk1 with rfl | rfl
  · obtain ⟨b, off, rfl, hb, hcell⟩ := hrd.1.2.2 (by omega)
    have c1 := hcell 0 (by omega)
    rw [Nat.add_zero] at c1
    clear hcell hA hr hlen
    go_wp2_with fail
    go_ret
    exact ⟨by rw [RV.out]; rfl, hr', hk'⟩
  · have hT : T1 = [] := List.eq_nil_of_length_eq_zero hlen
    rw [hT] at RV
    clear hr hlen hT hrd
    go_wp2_with fail
    go_ret
    exact ⟨by rw [RV.out]; rfl, hr', hk'⟩
end
section
set_option linter.unusedVariables false
open Go.RowKit
def Wtr (w : World) (base p : Nat) (T : TypeId) (v : Value) (bs : List Int) : Prop :=
  At w p T [v] ∧ base ≤ p ∧ Own w base 5 v bs ∧ v.ownBlock ≠ some p
/-- Only block p, and the row that it held, may have turned. -/
abbrev WS (p : Nat) (v : Value) : Nat → Prop := fun j => j = p ∨ v.ownBlock = some j
def WPost (r : Value) (w : World) (base p : Nat) (T : TypeId) (v : Value) (bs : List Int) (e : Ending) (w' : World) : Prop :=
  ∃ v', e = .returned r ∧ Wtr w' base p T v' bs ∧ (v'.ownBlock = v.ownBlock ∨ ∃ k, w.heap.size ≤ k ∧ v'.ownBlock = some k) ∧ Kept (WS p v) w w'
set_option maxRecDepth 100000 in
theorem Own.shape {w : World} {base : Nat} {e : TypeId} {v : Value} {bs : List Int} (h : Own w base e v bs) : ∃ A n c, v = .slice A n c := by
  obtain ⟨A, c, h, _⟩ := h.open_
  exact ⟨A, _, c, h⟩
set_option maxRecDepth 100000 in
/-- What append leaves, and the store behind it. -/
theorem Wtr.put {w w1 w2 : World} {base p : Nat} {T : TypeId} {v v' : Value} {bs bs' : List Int} (h : Wtr w base p T v bs) (hw1 : Below w.heap.size w w1) (hown : Own w2 base 5 v' bs') (hg : w1.grownBy w2 v.ownBlock)
    (hv : v'.ownBlock = v.ownBlock ∨ v'.ownBlock = some w1.heap.size) :
    Wtr (w2.setCell ⟨p, 0, none⟩ v') base p T v' bs' ∧ (v'.ownBlock = v.ownBlock ∨ ∃ k, w.heap.size ≤ k ∧ v'.ownBlock = some k) ∧ Kept (WS p v) w (w2.setCell ⟨p, 0, none⟩ v') ∧ w2.cell? ⟨p, 0, none⟩ = some v ∧ w2.frozen? ⟨p, 0, none⟩ = false := by
  obtain ⟨hA, hbp, ho, hne⟩ := h
  have hlt := hA.lt
  have hsz := hw1.size
  have k1 : Kept (WS p v) w w1 := Kept.of_below hw1 _
  have k2 : Kept (fun j => v.ownBlock = some j) w1 w2 := Kept.of_grown hg (fun k hk => .inl hk)
  have A1 : At w1 p T [v] := hA.below hw1 hlt
  have A2 : At w2 p T [v] := A1.kept k2 hne
  have hne' : v'.ownBlock ≠ some p := by
    rcases hv with h | h
    · rw [h]; exact hne
    · rw [h]; intro e; injection e; omega
  have kk : Kept (WS p v) w w2 := k1.trans' k2 fun j hj => .inl (.inr hj)
  refine ⟨⟨A2.set 0 v', hbp, hown.kept ((Kept.refl (· = p) _).setAt 0 v') (fun j hj e => hne' (by rw [hj, e])), hne'⟩, ?_, kk.setCell (.inl (.inl rfl)) _, A2.cell 0, A2.frozen 0⟩
  rcases hv with h | h
  · exact .inl h
  · exact .inr ⟨_, hsz, h⟩
set_option maxRecDepth 100000 in
theorem wbyte_any (base p : Nat) (T : TypeId) (v : Value) (bs : List Int) (x : Int) (w : World) (h : Wtr w base p T v bs) (hl : bs.length ≤ 100000000000000) (h0 : 0 ≤ x) (h1 : x < 256) (hbase : base ≤ w.heap.size) :
    Calls Try.prog 66 #[.pointer (some ⟨p, 0, none⟩), .int .u8 x] w (WPost (.tuple #[]) w base p T v (bs ++ [x])) := by
  obtain ⟨i0, hi, hz0, hz1, hz2⟩ := info_parts u8_info
  have c0 := h.1.cell 0
  go_enter Try.func66, Try.ntmps66
  go_wp2_with (at_builtin; refine wpList_append_at rfl (.tmp 8) (.tmp 10) 26 rfl base 5 i0 Try.underlying26 hi hz0 hz1 hz2 _ bs rfl (h.2.2.1.alloc _) _ _ 1 1 [x] rfl (Rd.byte w 5 _ rfl x ⟨h0, h1⟩) (by omega) (by simp; omega) ?_; intro v' w2 hown2 hgr2 hv2; obtain ⟨A', n', c', rfl⟩ := hown2.shape; obtain ⟨P1, P2, P3, P4, P5⟩ := h.put ((Below.refl _ _).alloc (Nat.le_refl _) _) hown2 hgr2 hv2; have P1' := Lib.hid P1; have P2' := Lib.hid P2; clear P1 P2 hgr2 hv2)
  go_end0
  exact ⟨_, rfl, P1'.out, P2'.out, P3⟩
set_option maxRecDepth 100000 in
theorem wraw_any (base p : Nat) (T : TypeId) (v : Value) (bs : List Int) (A : Option Addr) (n c : Nat) (xs : List Int) (w : World) (h : Wtr w base p T v bs) (hl : bs.length + n ≤ 140737488355000) (hr : Rd w w.heap.size A n xs) (hbase : base ≤ w.heap.size) :
    Calls Try.prog 67 #[.pointer (some ⟨p, 0, none⟩), .slice A n c] w (WPost (.tuple #[]) w base p T v (bs ++ xs)) := by
  obtain ⟨i0, hi, hz0, hz1, hz2⟩ := info_parts u8_info
  have c0 := h.1.cell 0
  go_enter Try.func67, Try.ntmps67
  go_wp2_with (at_builtin; refine wpList_append_at rfl (.tmp 8) (.tmp 9) 26 rfl base 5 i0 Try.underlying26 hi hz0 hz1 hz2 _ bs rfl h.2.2.1 _ A n c xs rfl hr (by omega) hbase ?_; intro v' w2 hown2 hgr2 hv2; obtain ⟨A', n', c', rfl⟩ := hown2.shape; obtain ⟨P1, P2, P3, P4, P5⟩ := h.put (Below.refl _ _) hown2 hgr2 hv2; have P1' := Lib.hid P1; have P2' := Lib.hid P2; clear P1 P2 hgr2 hv2)
  go_end0
  exact ⟨_, rfl, P1'.out, P2'.out, P3⟩
set_option maxRecDepth 100000 in
theorem Wtr.kept {S : Nat → Prop} {w w' : World} {base p : Nat} {T : TypeId} {v : Value} {bs : List Int} (h : Wtr w base p T v bs) (k : Kept S w w') (hp : ¬ S p) (hs : ∀ j, v.ownBlock = some j → ¬ S j) : Wtr w' base p T v bs :=
  ⟨h.1.kept k hp, h.2.1, h.2.2.1.kept k hs, h.2.2.2⟩
set_option maxRecDepth 100000 in
/-- What a call does behind one that only made memory. -/
theorem WPost.after {r : Value} {w w1 : World} {base p : Nat} {T : TypeId} {v : Value} {bs : List Int} {e : Ending} {w' : World} (hb : Below w.heap.size w w1) (h : WPost r w1 base p T v bs e w') : WPost r w base p T v bs e w' := by
  obtain ⟨v', h1, h2, h3, h4⟩ := h
  have hs := hb.size
  refine ⟨v', h1, h2, ?_, (Kept.of_below hb _).trans h4⟩
  rcases h3 with h3 | ⟨k, hk, h3⟩
  · exact .inl h3
  · exact .inr ⟨k, by omega, h3⟩
set_option maxRecDepth 100000 in
theorem wvar_yes (base p : Nat) (T : TypeId) (v : Value) (bs : List Int) (x : Int) (w : World) (h : Wtr w base p T v bs) (hl : bs.length ≤ 100000000000000) (h0 : 0 ≤ x) (h1 : x ≤ 4611686018427387903) (hbase : base ≤ w.heap.size) :
    Calls Try.prog 61 #[.pointer (some ⟨p, 0, none⟩), .int .u64 x] w (WPost (.bool true) w base p T v (bs ++ putS x)) := by
  have hpl : ([] ++ putS x).length ≤ 8 := by simp [putS_len]; exact size_le x
  go_enter Try.func61, Try.ntmps61
  go_wp2_with fail
  refine (putvar_yes none 0 0 [] x w (Rd.none_ _ _ _) (by omega) h0 h1).mono ?_
  rintro e w1 ⟨q, rfl, hq, hb⟩
  obtain ⟨A, c, rfl, g1, g2, g3⟩ := hq.open_
  have hsz := hb.size
  have hw1 : Wtr w1 base p T v bs := h.kept (Kept.of_below hb (fun _ => False)) (fun h => h) (fun _ _ h => h)
  clear hq
  go_wp2_with fail
  refine (wraw_any base p T v bs A _ c ([] ++ putS x) w1 hw1 (by omega) g3 (by omega)).mono ?_
  rintro e w2 hw2
  obtain ⟨v', rfl, k1, k2, k3⟩ := WPost.after hb hw2
  go_wp2_with fail
  go_ret
  exact ⟨v', rfl, by simpa using k1, k2, k3⟩
def textB (xs : List Int) : List Int := putS (xs.length : Int) ++ xs
set_option maxRecDepth 100000 in
theorem wtext_any (base p : Nat) (T : TypeId) (v : Value) (bs : List Int) (A : Option Addr) (n c : Nat) (xs : List Int) (w : World) (h : Wtr w base p T v bs) (hl : bs.length ≤ 10000000000000) (hn : n ≤ 10000000000000) (hr : Rd w w.heap.size A n xs) (hrv : ∀ b off, 0 < n → A = some ⟨b, off, none⟩ → ¬ WS p v b) (hbase : base ≤ w.heap.size) :
    Calls Try.prog 65 #[.pointer (some ⟨p, 0, none⟩), .slice A n c] w (WPost (.tuple #[]) w base p T v (bs ++ textB xs)) := by
  have hrp : RdP w (fun b => ¬ WS p v b) A n xs := ⟨hr, hrv⟩
  have e0 := Lib.hid (show (n : Int) = (xs.length : Int) by rw [hr.1])
  have e1 := Lib.hid (show bs ++ putS (n : Int) ++ xs = bs ++ textB xs by unfold textB; rw [e0.out, List.append_assoc])
  have hpl : (bs ++ putS (n : Int)).length ≤ bs.length + 8 := by simp [putS_len]; exact size_le _
  go_enter Try.func65, Try.ntmps65
  go_wp2_with fail
  refine (wvar_yes base p T v bs n w h (by omega) (by omega) (by omega) hbase).mono ?_
  rintro e w1 ⟨v1, rfl, h1, h2, h3⟩
  have hr1 := hrp.kept h3 (fun b hb => hb)
  have hsz := h3.size
  go_wp2_with fail
  refine (wraw_any base p T v1 _ A n c xs w1 h1 (by omega) hr1.1 (by omega)).mono ?_
  rintro e w2 ⟨v2, rfl, g1, g2, g3⟩
  go_wp2_with fail
  go_end0
  refine ⟨v2, rfl, e1.out ▸ g1, ?_, h3.trans' g3 fun j hj => ?_⟩
  · rcases g2 with g2 | ⟨k, hk, g2⟩
    · rcases h2 with h2 | ⟨k, hk, h2⟩
      · exact .inl (g2.trans h2)
      · exact .inr ⟨k, hk, g2.trans h2⟩
    · exact .inr ⟨k, by omega, g2⟩
  · rcases hj with hj | hj
    · exact .inl (.inl hj)
    · rcases h2 with h2 | ⟨k, hk, h2⟩
      · exact .inl (.inr (h2 ▸ hj))
      · rw [h2] at hj; injection hj with hj; omega
set_option maxRecDepth 100000 in
theorem wlen_any (base p : Nat) (T : TypeId) (v : Value) (bs : List Int) (w : World) (h : Wtr w base p T v bs) :
    Calls Try.prog 45 #[.pointer (some ⟨p, 0, none⟩)] w fun e w' => e = .returned (.int .i64 bs.length) ∧ w = w' := by
  obtain ⟨A, c, rfl, h1, h2, h3⟩ := h.2.2.1.open_
  have c0 := h.1.cell 0
  go_enter Try.func45, Try.ntmps45
  go_wp2
  go_ret
  exact ⟨rfl, rfl⟩
set_option maxRecDepth 100000 in
theorem Own.nil_cap {w : World} {base : Nat} {e : TypeId} {n c : Nat} {A : Option Addr} {bs : List Int} (h : Own w base e (.slice A n c) bs) : A = none → c = 0 := by
  intro hA
  subst hA
  rcases h.1.2 with ⟨h, _⟩ | ⟨g, cap, cur, h, _⟩
  · injection h
  · injection h with h; cases h
set_option maxRecDepth 100000 in
theorem wdone_any (base p : Nat) (T : TypeId) (v : Value) (bs : List Int) (w : World) (h : Wtr w base p T v bs) (hl : bs.length ≤ 100000000000000) :
    Calls Try.prog 41 #[.pointer (some ⟨p, 0, none⟩)] w fun e w' => ∃ v', e = .returned v' ∧ Own w' w.heap.size 5 v' bs ∧ Below w.heap.size w w' := by
  have ho := h.2.2.1
  obtain ⟨A, c, rfl, h1, h2, h3⟩ := ho.open_
  have hA := ho.nil_cap
  have c0 := h.1.cell 0
  go_enter Try.func41, Try.ntmps41
  go_wp2_with fail
  refine (clone_any A _ c bs w h3 (by omega) hA).mono ?_
  rintro e w1 ⟨q, rfl, hq, hb⟩
  go_wp2_with fail
  go_ret
  exact ⟨_, rfl, hq, hb⟩
set_option maxRecDepth 100000 in
theorem new_any (w : World) :
    Calls Try.prog 39 #[] w fun e w' => e = .returned (.pointer (some ⟨w.heap.size, 0, none⟩)) ∧ Wtr w' w.heap.size w.heap.size 101 (.slice none 0 0) [] ∧ w.heap.size < w'.heap.size ∧ Below w.heap.size w w' := by
  go_enter Try.func39, Try.ntmps39
  go_wp2
  go_ret
  exact ⟨rfl, ⟨At.new w _ _, Nat.le_refl _, Own.none_ _ _ _, by simp [Value.ownBlock]⟩, by simp, (Below.refl _ _).alloc (Nat.le_refl _) _⟩
end
section
set_option linter.unusedVariables false
open Go.RowKit
/-- What was written since w: the writer at p held v there, and holds v' in w'. -/
def WSt (w : World) (base p : Nat) (T : TypeId) (v v' : Value) (bs' : List Int) (w' : World) : Prop :=
  Wtr w' base p T v' bs' ∧ (v'.ownBlock = v.ownBlock ∨ ∃ k, w.heap.size ≤ k ∧ v'.ownBlock = some k) ∧ Kept (WS p v) w w'
section
variable {w w1 w2 : World} {base p : Nat} {T : TypeId} {v v1 r : Value} {bs bs1 bs2 : List Int} {e : Ending}
theorem WSt.refl (h : Wtr w base p T v bs) : WSt w base p T v v bs w := ⟨h, .inl rfl, Kept.refl _ _⟩
theorem WSt.step (h : WSt w base p T v v1 bs1 w1) (k : WPost r w1 base p T v1 bs2 e w2) : ∃ v2, e = .returned r ∧ WSt w base p T v v2 bs2 w2 := by
  obtain ⟨h1, h2, h3⟩ := h
  obtain ⟨v2, he, k1, k2, k3⟩ := k
  have hs := h3.size
  refine ⟨v2, he, k1, ?_, h3.trans' k3 fun j hj => ?_⟩
  · rcases k2 with k2 | ⟨i, hi, k2⟩
    · rcases h2 with h2 | ⟨i, hi, h2⟩
      · exact .inl (k2.trans h2)
      · exact .inr ⟨i, hi, k2.trans h2⟩
    · exact .inr ⟨i, by omega, k2⟩
  · rcases hj with hj | hj
    · exact .inl (.inl hj)
    · rcases h2 with h2 | ⟨i, hi, h2⟩
      · exact .inl (.inr (h2 ▸ hj))
      · rw [h2] at hj; injection hj with hj; omega
theorem WSt.below (h : WSt w base p T v v1 bs1 w1) (hb : Below w1.heap.size w1 w2) : WSt w base p T v v1 bs1 w2 := by
  obtain ⟨h1, h2, h3⟩ := h
  exact ⟨h1.kept (Kept.of_below hb (fun _ => False)) (fun h => h) (fun _ _ h => h), h2, h3.trans (Kept.of_below hb _)⟩
theorem WSt.alloc (h : WSt w base p T v v1 bs1 w1) (o : Obj) : WSt w base p T v v1 bs1 (w1.alloc o) := h.below ((Below.refl _ _).alloc (Nat.le_refl _) _)
theorem WSt.post (h : WSt w base p T v v1 bs1 w1) (r : Value) : WPost r w base p T v bs1 (.returned r) w1 := ⟨v1, rfl, h.1, h.2.1, h.2.2⟩
/-- What lay there, elsewhere than the writer, lies there still. -/
theorem WSt.apart (h : WSt w base p T v v1 bs1 w1) : Wtr w base p T v bs → ∀ j, j < w.heap.size → ¬ WS p v j → ¬ WS p v1 j := fun _ j hj hn hs => by
  rcases hs with hs | hs
  · exact hn (.inl hs)
  · rcases h.2.1 with h2 | ⟨i, hi, h2⟩
    · exact hn (.inr (h2 ▸ hs))
    · rw [h2] at hs; injection hs with hs; omega
/-- A new block lies apart from the writer. -/
theorem Wtr.not_new (h : Wtr w base p T v bs) {g : Nat} (hg : w.heap.size ≤ g) : ¬ WS p v g := fun hs => by
  rcases hs with hs | hs
  · have := h.1.lt; omega
  · have := (h.2.2.1.block_lt g hs).2; omega
end
/-- As WSt, but what the writer holds anew lies from block M on. -/
def WSx (w : World) (M base p : Nat) (T : TypeId) (v v' : Value) (bs' : List Int) (w' : World) : Prop :=
  Wtr w' base p T v' bs' ∧ (v'.ownBlock = v.ownBlock ∨ ∃ k, M ≤ k ∧ v'.ownBlock = some k) ∧ Kept (WS p v) w w' ∧ M ≤ w'.heap.size
section
variable {w w1 w2 : World} {M base p : Nat} {T : TypeId} {v v1 r : Value} {bs bs1 bs2 : List Int} {e : Ending}
theorem WSx.refl (h : Wtr w base p T v bs) (hb : Below w.heap.size w w1) : WSx w w1.heap.size base p T v v bs w1 := ⟨h.kept (Kept.of_below hb (fun _ => False)) (fun h => h) (fun _ _ h => h), .inl rfl, Kept.of_below hb _, Nat.le_refl _⟩
theorem WSx.step (h : WSx w M base p T v v1 bs1 w1) (hM : w.heap.size ≤ M) (k : WPost r w1 base p T v1 bs2 e w2) : ∃ v2, e = .returned r ∧ WSx w M base p T v v2 bs2 w2 ∧ Kept (WS p v1) w1 w2 := by
  obtain ⟨h1, h2, h3, h4⟩ := h
  obtain ⟨v2, he, k1, k2, k3⟩ := k
  have hs := k3.size
  refine ⟨v2, he, ⟨k1, ?_, h3.trans' k3 fun j hj => ?_, by omega⟩, k3⟩
  · rcases k2 with k2 | ⟨i, hi, k2⟩
    · rcases h2 with h2 | ⟨i, hi, h2⟩
      · exact .inl (k2.trans h2)
      · exact .inr ⟨i, hi, k2.trans h2⟩
    · exact .inr ⟨i, by omega, k2⟩
  · rcases hj with hj | hj
    · exact .inl (.inl hj)
    · rcases h2 with h2 | ⟨i, hi, h2⟩
      · exact .inl (.inr (h2 ▸ hj))
      · rw [h2] at hj; injection hj with hj; omega
theorem WSx.below (h : WSx w M base p T v v1 bs1 w1) (hb : Below w1.heap.size w1 w2) : WSx w M base p T v v1 bs1 w2 := by
  obtain ⟨h1, h2, h3, h4⟩ := h
  have := hb.size
  exact ⟨h1.kept (Kept.of_below hb (fun _ => False)) (fun h => h) (fun _ _ h => h), h2, h3.trans (Kept.of_below hb _), by omega⟩
theorem WSx.alloc (h : WSx w M base p T v v1 bs1 w1) (o : Obj) : WSx w M base p T v v1 bs1 (w1.alloc o) := h.below ((Below.refl _ _).alloc (Nat.le_refl _) _)
theorem WSx.apart (h : WSx w M base p T v v1 bs1 w1) {j : Nat} (hj : j < M) (hn : ¬ WS p v j) : ¬ WS p v1 j := fun hs => by
  rcases hs with hs | hs
  · exact hn (.inl hs)
  · rcases h.2.1 with h2 | ⟨i, hi, h2⟩
    · exact hn (.inr (h2 ▸ hs))
    · rw [h2] at hs; injection hs with hs; omega
theorem WSx.cell (h : WSx w M base p T v v1 bs1 w1) {g : Nat} (hg : w.heap.size ≤ g) (hgM : g < M) (hn : ¬ WS p v g) (j : Nat) (u : Value) : WSx w M base p T v v1 bs1 (w1.setCell ⟨g, j, none⟩ u) := by
  have ha := h.apart hgM hn
  obtain ⟨h1, h2, h3, h4⟩ := h
  refine ⟨h1.kept (S := (· = g)) ((Kept.refl _ _).setAt j u) (fun e => ha (.inl e.symm)) (fun i hi e => ha (.inr (e ▸ hi))), h2, h3.setCell (.inr hg) _, by simpa [World.setCell] using h4⟩
theorem WSx.post (h : WSx w M base p T v v1 bs1 w1) (hM : w.heap.size ≤ M) (r : Value) : WPost r w base p T v bs1 (.returned r) w1 := by
  refine ⟨v1, rfl, h.1, ?_, h.2.2.1⟩
  rcases h.2.1 with h2 | ⟨i, hi, h2⟩
  · exact .inl h2
  · exact .inr ⟨i, by omega, h2⟩
end
theorem WSx.row {w w1 : World} {M base p : Nat} {T : TypeId} {v v1 : Value} {bs1 : List Int} (h : WSx w M base p T v v1 bs1 w1) (hM : w.heap.size ≤ M) {d : Sl} {ds : List Int} (hd : InD w (fun b => ¬ WS p v b) d ds) :
    Rd w1 w1.heap.size d.A d.n ds ∧ ∀ b off, 0 < d.n → d.A = some ⟨b, off, none⟩ → ¬ WS p v1 b := by
  have hk := hd.rd.kept h.2.2.1 (fun b hb => hb)
  refine ⟨hk.1, fun b off hn e => ?_⟩
  obtain ⟨b', off', e', hb, _⟩ := hd.rd.1.2.2 hn
  rw [e] at e'
  injection e' with e'
  injection e' with e1 e2
  exact h.apart (by omega) (hd.rd.2 b off hn e)
theorem putS_le (x : Int) : (putS x).length ≤ 8 := by rw [putS_len]; exact size_le x
theorem textB_le (xs : List Int) : (textB xs).length ≤ xs.length + 8 := by
  unfold textB; rw [List.length_append, putS_len]; have := size_le (xs.length : Int); omega
end
section
set_option linter.unusedVariables false
open Go.RowKit
set_option maxRecDepth 100000 in
set_option maxHeartbeats 1000000 in
theorem rraw_any (p : Nat) (T : TypeId) (P : Nat → Prop) (s : St) (n : Int) (w : World) (hr : Rdr w p T P s) (hP : ∀ b, P b → b ≠ p) (hl : s.1.length ≤ 140737488355000) :
    Calls Try.prog 57 #[.pointer (some ⟨p, 0, none⟩), .int .i64 n] w (RawPost w p T P (takeR s n) (takeN s n)) := by
  obtain ⟨i0, hi, hz0, hz1, hz2⟩ := info_parts u8_info
  obtain ⟨A, m, c, hA, hmc, hc, hAc, hrd, hbad⟩ := hr
  have hc' := hc
  unfold maxLen at hc'
  have hlen := hrd.len
  have c0 := hA.cell 0
  have c1 := hA.cell 1
  have f0 := hA.frozen 0
  have f1 := hA.frozen 1
  have hpl := hA.lt
  obtain ⟨bs, bad⟩ := s
  by_cases hn : bad = false ∧ 0 ≤ n ∧ n ≤ m
  · obtain ⟨rfl, hn0, hn1⟩ := hn
    obtain ⟨k, rfl⟩ := Int.eq_ofNat_of_zero_le hn0
    have hk : k ≤ m := by omega
    have R1 := Lib.hid (show takeR (bs, false) (k : Int) = bs.take k by unfold takeR; rw [if_pos (by rw [hlen]; omega)]; simp)
    have R2 := Lib.hid (show takeN (bs, false) (k : Int) = (bs.drop k, false) by unfold takeN; rw [if_pos (by rw [hlen]; omega)]; simp)
    have rd1 := Lib.hid (hrd.cutTo hk)
    have rd2 := Lib.hid (hrd.cutFrom hk hmc)
    have hkl : (bs.take k).length = k := by rw [List.length_take, hlen]; omega
    have HK := Lib.hid hkl
    have H := Lib.hid hA
    have HL := Lib.hid hlen
    have hm47 : m ≤ 140737488355000 := by rw [← hlen]; exact hl
    clear hA hlen hrd hbad hl hkl
    cases A with
    | none =>
      obtain rfl := hAc rfl
      obtain rfl : m = 0 := by omega
      obtain rfl : k = 0 := by omega
      clear hAc
      go_enter Try.func57, Try.ntmps57
      go_wp2_with (at_builtin; refine wpList_append_rd rfl (.tmp 29) (.tmp 35) 26 rfl w.heap.size 5 i0 Try.underlying26 hi hz0 hz1 hz2 _ [] rfl (Own.of_block (n := 0) (cap := 0) Byt.nil rfl (heap_alloc_new w _) (Nat.le_refl _) (Nat.le_refl _) (Nat.zero_le _) rfl rfl) _ none 0 0 _ rfl (rd1.out.1.alloc (Nat.le_refl _) _) (by rw [List.length_nil]; omega) w ((Below.refl _ _).alloc (Nat.le_refl _) _) (by simp) ?_; intro v2 w2 hown2 hb2 hgr2; have A2 := Lib.hid (H.out.below hb2 hpl); have d0 := A2.out.cell 0; have g0 := A2.out.frozen 0; clear hgr2)
      go_ret
      exact ⟨v2, rfl, by rw [show takeR (bs, false) 0 = List.take 0 bs from R1.out]; exact (hown2.cast (List.nil_append _)).kept ((Kept.refl (· = p) _).setAt _ _) (fun j hj e => by have := (hown2.block_lt j hj).1; omega), by rw [show takeN (bs, false) 0 = (List.drop 0 bs, false) from R2.out]; exact ⟨_, _, _, A2.out.set 0 _, Nat.le_refl _, by unfold maxLen; omega, by simp, rd2.out.kept ((Kept.of_below hb2 _).setAt _ _) hP, fun h => by cases h⟩, ((Kept.of_below hb2 _).setAt _ _)⟩
    | some ad =>
      by_cases hck : c = k
      · obtain rfl := hck
        obtain rfl : m = c := by omega
        go_enter Try.func57, Try.ntmps57
        go_wp2_with (at_builtin; refine wpList_append_rd rfl (.tmp 29) (.tmp 35) 26 rfl w.heap.size 5 i0 Try.underlying26 hi hz0 hz1 hz2 _ [] rfl (Own.of_block (n := 0) (cap := 0) Byt.nil rfl (heap_alloc_new w _) (Nat.le_refl _) (Nat.le_refl _) (Nat.zero_le _) rfl rfl) _ (some ad) m m _ rfl (rd1.out.1.alloc (Nat.le_refl _) _) (by rw [List.length_nil]; omega) w ((Below.refl _ _).alloc (Nat.le_refl _) _) (by simp) ?_; intro v2 w2 hown2 hb2 hgr2; have A2 := Lib.hid (H.out.below hb2 hpl); have d0 := A2.out.cell 0; have g0 := A2.out.frozen 0; clear hgr2)
        go_ret
        exact ⟨v2, rfl, by rw [R1.out]; exact (hown2.cast (List.nil_append _)).kept ((Kept.refl (· = p) _).setAt _ _) (fun j hj e => by have := (hown2.block_lt j hj).1; omega), by rw [R2.out]; exact ⟨_, _, _, A2.out.set 0 _, Nat.le_refl _, by unfold maxLen; omega, by simp, (by rw [show List.drop m bs = [] from List.drop_eq_nil_of_le (by rw [HL.out]; omega)]; exact RdP.none_ _ _ _), fun h => by cases h⟩, ((Kept.of_below hb2 _).setAt _ _)⟩
      · have hcut : cutA (some ad) c k = some (ad.add k) := by simp [cutA, hck]
        have rd3 := Lib.hid (hcut ▸ rd2.out)
        clear hcut
        go_enter Try.func57, Try.ntmps57
        go_wp2_with (at_builtin; refine wpList_append_rd rfl (.tmp 29) (.tmp 35) 26 rfl w.heap.size 5 i0 Try.underlying26 hi hz0 hz1 hz2 _ [] rfl (Own.of_block (n := 0) (cap := 0) Byt.nil rfl (heap_alloc_new w _) (Nat.le_refl _) (Nat.le_refl _) (Nat.zero_le _) rfl rfl) _ (some ad) k c _ rfl (rd1.out.1.alloc (Nat.le_refl _) _) (by rw [List.length_nil]; omega) w ((Below.refl _ _).alloc (Nat.le_refl _) _) (by simp) ?_; intro v2 w2 hown2 hb2 hgr2; have A2 := Lib.hid (H.out.below hb2 hpl); have d0 := A2.out.cell 0; have g0 := A2.out.frozen 0; clear hgr2)
        go_ret
        exact ⟨v2, rfl, by rw [R1.out]; exact (hown2.cast (List.nil_append _)).kept ((Kept.refl (· = p) _).setAt _ _) (fun j hj e => by have := (hown2.block_lt j hj).1; omega), by rw [R2.out]; exact ⟨_, _, _, A2.out.set 0 _, by omega, by unfold maxLen; omega, by simp, rd3.out.kept ((Kept.of_below hb2 _).setAt _ _) hP, fun h => by cases h⟩, ((Kept.of_below hb2 _).setAt _ _)⟩
  · have R1 := Lib.hid (show takeR (bs, bad) n = [] by
      unfold takeR
      split
      · next h =>
        cases bad with
        | false => exact absurd ⟨rfl, h.1, by rw [← hlen]; exact h.2⟩ hn
        | true => simp [show bs = [] from hbad rfl]
      · rfl)
    have R2 := Lib.hid (show takeN (bs, bad) n = ([], true) by
      unfold takeN
      split
      · next h =>
        cases bad with
        | false => exact absurd ⟨rfl, h.1, by rw [← hlen]; exact h.2⟩ hn
        | true => simp [show bs = [] from hbad rfl]
      · rfl)
    have hs := (hA.set 1 (.bool true)).set 0 (.slice none 0 0)
    have HS := Lib.hid hs
    have H := Lib.hid hA
    clear hA hlen hrd hs hl hbad
    have hcase : bad = true ∨ (bad = false ∧ n < 0) ∨ (bad = false ∧ 0 ≤ n ∧ (m : Int) < n) := by
      cases bad with
      | true => exact .inl rfl
      | false =>
        right
        by_cases h : n < 0
        · exact .inl ⟨rfl, h⟩
        · exact .inr ⟨rfl, by omega, by
            rcases Int.lt_or_le (m : Int) n with h1 | h1
            · exact h1
            · exact absurd ⟨rfl, by omega, h1⟩ hn⟩
    clear hn
    rcases hcase with rfl | ⟨rfl, hn⟩ | ⟨rfl, hn0, hn1⟩
    all_goals
      go_enter Try.func57, Try.ntmps57
      go_wp2
      go_ret
      exact ⟨.slice none 0 0, rfl, by rw [R1.out]; exact Own.none_ _ _ _, by rw [R2.out]; exact Rdr.of_spoil HS.out, ((Kept.refl _ _).setAt _ _).setAt _ _⟩
set_option maxRecDepth 100000 in
theorem Rdr.drewN {w : World} {p : Nat} {T : TypeId} {P : Nat → Prop} {s : St} (h : Rdr w p T P s) (n : Nat) : Rdr (w.drewN n) p T P s := h.kept ((Kept.refl (fun _ => False) w).drewN n) (fun h => h) (fun _ _ h => h)
set_option maxRecDepth 100000 in
theorem rbyte_any (p : Nat) (T : TypeId) (P : Nat → Prop) (s : St) (w : World) (hr : Rdr w p T P s) (hP : ∀ b, P b → b ≠ p) (hl : s.1.length ≤ 140737488355000) :
    Calls Try.prog 59 #[.pointer (some ⟨p, 0, none⟩)] w (NumPost .u8 w p T P (byteR s) (takeN s 1)) := by
  have RV := Lib.hid (show byteR s = (takeR s 1).getD 0 0 from rfl)
  go_enter Try.func59, Try.ntmps59
  go_wp2_with fail
  refine (rraw_any p T P s 1 w hr hP hl).mono ?_
  rintro e w1 ⟨v, rfl, hown, hr', hk'⟩
  obtain ⟨A, c, rfl, hkc, hc, hrd⟩ := hown.open_
  have hk1 : (takeR s 1).length = 1 ∨ (takeR s 1).length = 0 := by
    unfold takeR; split <;> simp; omega
  obtain ⟨T1, hT1⟩ : ∃ T1, takeR s 1 = T1 := ⟨_, rfl⟩
  rw [hT1] at hrd hk1 RV hkc
  rw [hT1]
  clear hT1 hown
  unfold maxLen at hc
  rcases hk1 with hk1 | hk1
  · rw [hk1] at hrd hkc
    rw [hk1]
    obtain ⟨b, off, rfl, hb, hcell⟩ := hrd.2.2 (by omega)
    have c1 := hcell 0 (by omega)
    rw [Nat.add_zero] at c1
    clear hcell hr hrd hk1
    go_wp2_with fail
    go_ret
    exact ⟨by rw [RV.out]; rfl, hr', hk'⟩
  · have hT : T1 = [] := List.eq_nil_of_length_eq_zero hk1
    rw [hT] at RV hkc
    rw [hT]
    clear hr hT hrd hk1
    go_wp2_with fail
    go_ret
    exact ⟨by rw [RV.out]; rfl, hr', hk'⟩
end
section
set_option linter.unusedVariables false
open Go.RowKit
set_option maxRecDepth 100000 in
theorem getS_nil : getS [] = (0, 0) := rfl
set_option maxRecDepth 100000 in
set_option maxHeartbeats 1000000 in
theorem rvar_any (p : Nat) (T : TypeId) (P : Nat → Prop) (s : St) (w : World) (hr : Rdr w p T P s) (hP : ∀ b, P b → b ≠ p) :
    Calls Try.prog 55 #[.pointer (some ⟨p, 0, none⟩)] w (NumPost .u64 w p T P (varR s) (varN s)) := by
  have hcs := getS_cases s.1 hr.byt
  obtain ⟨A, m, c, hA, hmc, hc, hAc, hrd, hbad⟩ := hr
  have hc' := hc
  unfold maxLen at hc'
  have hlen := hrd.len
  have c0 := hA.cell 0
  have c1 := hA.cell 1
  have f0 := hA.frozen 0
  have f1 := hA.frozen 1
  have hb0 : s.2 = true → (getS s.1).2 = 0 := fun h => by rw [hbad h, getS_nil]
  obtain ⟨x, hx⟩ : ∃ x, (getS s.1).1 = x := ⟨_, rfl⟩
  obtain ⟨z, hz⟩ : ∃ z, (getS s.1).2 = z := ⟨_, rfl⟩
  have hX0 : z = 0 → varR s = 0 := fun h => by unfold varR; rw [hz, if_pos h]
  have hX1 : z ≠ 0 → varR s = x := fun h => by unfold varR; rw [hz, hx, if_neg h]
  have hN0 : z = 0 → varN s = ([], true) := fun h => by unfold varN; rw [hz, if_pos h]
  have hN1 : z ≠ 0 → varN s = takeN s z := fun h => by unfold varN; rw [hz, if_neg h]
  rw [hx, hz] at hcs
  rw [hz] at hb0
  have GX := Lib.hid hx; have GZ := Lib.hid hz
  have H := Lib.hid hA
  clear hx hz hA
  obtain ⟨bs, bad⟩ := s
  rcases hcs with ⟨rfl, rfl⟩ | ⟨h1, h2, h3, h4, h5⟩
  · have RV := Lib.hid (hX0 rfl)
    have RN := Lib.hid (hN0 rfl)
    have HS := Lib.hid ((H.out.set 1 (.bool true)).set 0 (.slice none 0 0))
    clear hX0 hX1 hN0 hN1 hlen hb0 hbad
    cases bad
    all_goals
      go_enter Try.func55, Try.ntmps55
      go_wp2_with fail
      refine (rget_any A m c bs w _ hrd.1 hmc hc).mono ?_
      rintro e w' ⟨rfl, rfl⟩
      rw [GX.out, GZ.out]
      go_wp2_with fail
      go_ret
      exact ⟨by rw [RV.out]; rfl, by rw [RN.out]; exact Rdr.of_spoil HS.out, ((Kept.refl _ _).setAt _ _).setAt _ _⟩
  · have hz : (z == 0) = false := by simp; omega
    have hbf : bad = false := by
      cases bad with
      | false => rfl
      | true => have := hb0 rfl; omega
    subst hbf
    obtain ⟨k, rfl⟩ := Int.eq_ofNat_of_zero_le (show 0 ≤ z by omega)
    have hk : k ≤ m := by rw [← hlen]; show k ≤ bs.length; have : ((k : Nat) : Int) ≤ (bs.length : Int) := h3; omega
    have RV := Lib.hid (hX1 (by omega))
    have RN := Lib.hid (show varN (bs, false) = (bs.drop k, false) by
      rw [hN1 (by omega)]; unfold takeN; rw [if_pos ⟨by omega, h3⟩]; simp)
    have rd2 := Lib.hid (hrd.cutFrom hk hmc)
    have HL := Lib.hid hlen
    clear hX0 hX1 hN0 hN1 h3 hb0 hbad hlen
    cases A with
    | none =>
      obtain rfl := hAc rfl
      omega
    | some ad =>
      by_cases hck : c = k
      · obtain rfl := hck
        obtain rfl : m = c := by omega
        have HS := Lib.hid (H.out.set 0 (.slice (some ad) 0 0))
        go_enter Try.func55, Try.ntmps55
        go_wp2_with fail
        refine (rget_any (some ad) m m bs w _ hrd.1 hmc hc).mono ?_
        rintro e w' ⟨rfl, rfl⟩
        rw [GX.out, GZ.out]
        go_wp2_with fail
        go_ret
        exact ⟨by rw [RV.out]; rfl, by rw [RN.out]; exact ⟨_, _, _, HS.out, Nat.le_refl _, by unfold maxLen; omega, by simp, (by rw [show List.drop m bs = [] from List.drop_eq_nil_of_le (by rw [HL.out]; omega)]; exact RdP.none_ _ _ _), fun h => by cases h⟩, (Kept.refl _ _).setAt _ _⟩
      · have hcut : cutA (some ad) c k = some (ad.add k) := by simp [cutA, hck]
        have rd3 := Lib.hid (hcut ▸ rd2.out)
        have HS := Lib.hid (H.out.set 0 (.slice (some (ad.add k)) (m - k) (c - k)))
        clear hcut
        go_enter Try.func55, Try.ntmps55
        go_wp2_with fail
        refine (rget_any (some ad) m c bs w _ hrd.1 hmc hc).mono ?_
        rintro e w' ⟨rfl, rfl⟩
        rw [GX.out, GZ.out]
        go_wp2_with fail
        go_ret
        exact ⟨by rw [RV.out]; rfl, by rw [RN.out]; exact ⟨_, _, _, HS.out, by omega, by unfold maxLen; omega, by simp, rd3.out.kept ((Kept.refl _ _).setAt _ _) hP, fun h => by cases h⟩, (Kept.refl _ _).setAt _ _⟩
end
section
set_option linter.unusedVariables false
open Go.RowKit
set_option maxRecDepth 100000 in
theorem takeN_le (s : St) (n : Int) : (takeN s n).1.length ≤ s.1.length := by
  unfold takeN
  split
  · simp
  · simp
set_option maxRecDepth 100000 in
theorem varN_le (s : St) : (varN s).1.length ≤ s.1.length := by
  unfold varN
  split
  · simp
  · exact takeN_le _ _
set_option maxRecDepth 100000 in
theorem take_out (s : St) (x : Int) (h : (s.1.length : Int) < x) : takeR s x = [] ∧ takeN s x = ([], true) := by
  unfold takeR takeN
  rw [if_neg (by omega), if_neg (by omega)]; exact ⟨rfl, rfl⟩
set_option maxRecDepth 100000 in
theorem take_bad (s : St) (x : Int) (hb : s.2 = true) (h : s.1 = []) : takeR s x = [] ∧ takeN s x = ([], true) := by
  obtain ⟨bs, bad⟩ := s
  subst hb; subst h
  unfold takeR takeN
  constructor <;> split <;> simp
set_option maxRecDepth 100000 in
theorem text_any (p : Nat) (T : TypeId) (P : Nat → Prop) (s : St) (w : World) (hr : Rdr w p T P s) (hP : ∀ b, P b → b ≠ p) (hl : s.1.length ≤ 140737488355000) :
    Calls Try.prog 70 #[.pointer (some ⟨p, 0, none⟩)] w (RawPost w p T P (textR s) (textN s)) := by
  have hbd := varR_bd s hr.byt
  have hvl := varN_le s
  have R1 := Lib.hid (show textR s = takeR (varN s) (varR s) from rfl)
  have R2 := Lib.hid (show textN s = takeN (varN s) (varR s) from rfl)
  go_enter Try.func70, Try.ntmps70
  go_wp2_with fail
  refine (var_any p T P s w hr hP).mono ?_
  rintro e w1 ⟨rfl, hr1, hk1⟩
  clear hr
  obtain ⟨x, hx⟩ : ∃ x, varR s = x := ⟨_, rfl⟩
  obtain ⟨s2, hs2⟩ : ∃ s2, varN s = s2 := ⟨_, rfl⟩
  rw [hx] at hbd R1 R2
  rw [hs2] at hr1 R1 R2 hvl
  rw [hx]
  clear hx hs2
  obtain ⟨hx0, hx1⟩ := hbd
  have HR := Lib.hid hr1
  obtain ⟨A, m, c, hA, hmc, hc, hAc, hrd, hbad⟩ := hr1
  have hc' := hc
  unfold maxLen at hc'
  have hlen := hrd.len
  have c0 := hA.cell 0
  have hto := take_out s2 x
  rw [hlen] at hvl hto
  have H := Lib.hid hA; clear hA hbad
  have HL := Lib.hid hlen; clear hlen
  rcases Int.lt_or_le (m : Int) x with hlt | hge
  · have T1 := Lib.hid (hto hlt)
    clear hto
    go_wp2_with fail
    refine (spoil_any p T _ _ w1 H.out).mono ?_
    rintro e w2 ⟨rfl, hA', hk'⟩
    go_wp2_with fail
    go_ret
    exact ⟨_, rfl, by rw [R1.out, T1.out.1]; exact Own.none_ _ _ _, by rw [R2.out, T1.out.2]; exact Rdr.of_spoil hA', hk1.trans hk'⟩
  · clear hto
    go_wp2_with fail
    refine (raw_any p T P s2 x w1 HR.out hP (by rw [HL.out]; omega)).mono ?_
    rintro e w2 ⟨v, rfl, hown, hr', hk'⟩
    go_wp2_with fail
    go_ret
    exact ⟨_, rfl, by rw [R1.out]; exact hown.base_ hk1.size, by rw [R2.out]; exact hr', hk1.trans hk'⟩
set_option maxRecDepth 100000 in
set_option maxHeartbeats 1000000 in
theorem rtext_any (p : Nat) (T : TypeId) (P : Nat → Prop) (s : St) (w : World) (hr : Rdr w p T P s) (hP : ∀ b, P b → b ≠ p) (hl : s.1.length ≤ 140737488355000) :
    Calls Try.prog 56 #[.pointer (some ⟨p, 0, none⟩)] w (RawPost w p T P (textR s) (textN s)) := by
  have hbd := varR_bd s hr.byt
  have hvl := varN_le s
  have R1 := Lib.hid (show textR s = takeR (varN s) (varR s) from rfl)
  have R2 := Lib.hid (show textN s = takeN (varN s) (varR s) from rfl)
  go_enter Try.func56, Try.ntmps56
  go_wp2_with fail
  refine (rvar_any p T P s w hr hP).mono ?_
  rintro e w1 ⟨rfl, hr1, hk1⟩
  clear hr
  obtain ⟨x, hx⟩ : ∃ x, varR s = x := ⟨_, rfl⟩
  obtain ⟨s2, hs2⟩ : ∃ s2, varN s = s2 := ⟨_, rfl⟩
  rw [hx] at hbd R1 R2
  rw [hs2] at hr1 R1 R2 hvl
  rw [hx]
  clear hx hs2
  obtain ⟨hx0, hx1⟩ := hbd
  have HR := Lib.hid hr1
  obtain ⟨A, m, c, hA, hmc, hc, hAc, hrd, hbad⟩ := hr1
  have hc' := hc
  unfold maxLen at hc'
  have hlen := hrd.len
  have c0 := hA.cell 0
  have c1 := hA.cell 1
  have f0 := hA.frozen 0
  have f1 := hA.frozen 1
  have hto := take_out s2 x
  have htb := fun h => take_bad s2 x h (hbad h)
  rw [hlen] at hvl hto
  have HS := Lib.hid ((hA.set 1 (.bool true)).set 0 (.slice none 0 0))
  have H := Lib.hid hA; clear hA hbad
  have HL := Lib.hid hlen; clear hlen
  obtain ⟨bs, bad⟩ := s2
  cases bad with
  | true =>
    have T1 := Lib.hid (htb rfl)
    clear hto htb
    go_wp2_with fail
    go_ret
    exact ⟨_, rfl, by rw [R1.out, T1.out.1]; exact Own.none_ _ _ _, by rw [R2.out, T1.out.2]; exact Rdr.of_spoil HS.out, (hk1.setAt _ _).setAt _ _⟩
  | false =>
    clear htb
    rcases Int.lt_or_le (m : Int) x with hlt | hge
    · have T1 := Lib.hid (hto hlt)
      clear hto
      go_wp2_with fail
      go_ret
      exact ⟨_, rfl, by rw [R1.out, T1.out.1]; exact Own.none_ _ _ _, by rw [R2.out, T1.out.2]; exact Rdr.of_spoil HS.out, (hk1.setAt _ _).setAt _ _⟩
    · clear hto
      go_wp2_with fail
      refine (rraw_any p T P (bs, false) x w1 HR.out hP (by rw [HL.out]; omega)).mono ?_
      rintro e w2 ⟨v, rfl, hown, hr', hk'⟩
      go_wp2_with fail
      go_ret
      exact ⟨_, rfl, by rw [R1.out]; exact hown.base_ hk1.size, by rw [R2.out]; exact hr', hk1.trans hk'⟩
set_option maxRecDepth 100000 in
theorem of_any (A : Option Addr) (n c : Nat) (bs : List Int) (w : World) (hr : Rd w w.heap.size A n bs) (hc : n ≤ 140737488355000) (hA : A = none → c = 0) :
    Calls Try.prog 42 #[.slice A n c] w fun e w' => ∃ p, e = .returned (.pointer (some ⟨p, 0, none⟩)) ∧ w.heap.size ≤ p ∧
      Rdr w' p 108 (fun b => w.heap.size ≤ b ∧ b < p) (bs, false) ∧ Below w.heap.size w w' := by
  have HL := Lib.hid hr.1
  go_enter Try.func42, Try.ntmps42
  go_wp2_with fail
  refine (clone_any A n c bs w hr hc hA).mono ?_
  rintro e w1 ⟨v, rfl, hown, hb⟩
  have hsz := hb.size
  obtain ⟨A', c', rfl, h1, h2, h3⟩ := hown.open_n n HL.out
  have hAc : A' = none → c' = 0 := by
    intro h
    subst h
    rcases hown.1.2 with ⟨h, _⟩ | ⟨g, cap, cur, h, _⟩
    · injection h
    · injection h with h; cases h
  have hP := (hown.rdP HL.out).mono (P' := fun b => w.heap.size ≤ b ∧ b < w1.heap.size) (fun b hb' e => ⟨(hown.block_lt b e).1, hb'⟩)
  go_wp2_with fail
  go_ret
  refine ⟨_, rfl, hsz, ⟨A', n, c', At.new w1 _ _, h1, h2, hAc, hP.kept ((Kept.refl (fun _ => False) _).alloc _) (fun _ _ h => h), fun h => by cases h⟩, hb.alloc hsz _⟩
end
section
set_option linter.unusedVariables false
set_option linter.unusedSimpArgs false
open Go.RowKit
/-- Eight bytes, zeros where they lack. -/
def cid8 (bs : List Int) : List Int := [bs.getD 0 0, bs.getD 1 0, bs.getD 2 0, bs.getD 3 0, bs.getD 4 0, bs.getD 5 0, bs.getD 6 0, bs.getD 7 0]
theorem takeR8 (s : St) : (takeR s 8).length = 8 ∨ takeR s 8 = [] := by
  unfold takeR
  split
  · left; simp; omega
  · right; rfl
theorem cid8_full (bs : List Int) (h : bs.length = 8) : cid8 bs = bs := by
  match bs, h with
  | [a, b, c, d, e, f, g, i], _ => rfl
def CidPost (w : World) (p : Nat) (T : TypeId) (P : Nat → Prop) (s : St) (e : Ending) (w' : World) : Prop :=
  e = .returned (.agg ((cid8 (takeR s 8)).map (Value.int .u8)).toArray) ∧ Rdr w' p T P (takeN s 8) ∧ Kept (· = p) w w'
theorem Kept.of_belowB {B : Nat} {w w' : World} (h : Below B w w') : Kept (fun j => B ≤ j) w w' := ⟨h.os, h.tape, h.output, h.size, fun j _ hn => h.block j (by omega)⟩
theorem Rdr.mono {w : World} {p : Nat} {T : TypeId} {P P' : Nat → Prop} {s : St} (h : Rdr w p T P s) (hp : ∀ b, b < w.heap.size → P b → P' b) : Rdr w p T P' s := by
  obtain ⟨A, n, c, h1, h2, h3, h4, h5, h6⟩ := h
  exact ⟨A, n, c, h1, h2, h3, h4, h5.mono hp, h6⟩
theorem cid_info : (Try.prog.info? 29).map (·.size) = some 8 := by kernel_rfl
end
section
set_option linter.unusedVariables false
open Go.RowKit
set_option maxRecDepth 100000 in
theorem rtext2_any (A : Option Addr) (n c : Nat) (bs : List Int) (A' : Option Addr) (n' c' : Nat) (xs : List Int) (w : World) (hr : Rd w w.heap.size A n bs) (hr' : Rd w w.heap.size A' n' xs) (hl : n ≤ 10000000000000) (hl' : n' ≤ 10000000000000) :
    Calls Try.prog 36 #[.slice A n c, .slice A' n' c'] w fun e w' => ∃ v, e = .returned v ∧ Own w' w.heap.size 5 v (bs ++ textB xs) ∧ Below w.heap.size w w' := by
  obtain ⟨i0, hi, hz0, hz1, hz2⟩ := info_parts u8_info
  have e0 := Lib.hid (show (n' : Int) = (xs.length : Int) by rw [hr'.1])
  have e1 := Lib.hid (show bs ++ putS (n' : Int) ++ xs = bs ++ textB xs by unfold textB; rw [e0.out, List.append_assoc])
  have hpl : (bs ++ putS (n' : Int)).length ≤ n + 8 := by rw [List.length_append, hr.1, putS_len]; have := size_le (n' : Int); omega
  go_enter Try.func36, Try.ntmps36
  go_wp2_with fail
  refine (rput_any A n c bs n' w hr (by omega) (by omega) (by omega)).mono ?_
  rintro e w1 ⟨v1, rfl, ho1, hb1⟩
  have hs1 := hb1.size
  go_wp2_with (at_builtin; refine wpList_append_rd rfl (.tmp 9) (.tmp 10) 26 rfl w.heap.size 5 i0 Try.underlying26 hi hz0 hz1 hz2 _ _ rfl ho1 _ A' n' c' xs rfl (hr'.below hb1) (by omega) w hb1 hs1 ?_; intro v3 w3 hown3 hb3 hgr3)
  go_ret
  exact ⟨_, rfl, e1.out ▸ hown3, hb3⟩
end
end Go.Proofs.Ytkahndjflhgccaa
