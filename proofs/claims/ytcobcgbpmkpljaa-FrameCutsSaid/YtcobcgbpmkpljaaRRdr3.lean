/-
  Text of both readers; Of of package octet.
-/
import Derived.Test.YtcobcgbpmkpljaaRRdr2
namespace Go.Proofs.Ytcobcgbpmkpljaa
set_option linter.unusedVariables false
open Go.RowKit
set_option maxRecDepth 100000 in
theorem takeN_le (s : St) (n : Int) : (takeN s n).1.length ≤ s.1.length := by
  unfold takeN
  split
  · simp
  · simp
set_option maxRecDepth 100000 in
theorem varN_le (s : St) : (varN s).1.length ≤ s.1.length := by
  unfold varN
  split
  · simp
  · exact takeN_le _ _
set_option maxRecDepth 100000 in
theorem take_out (s : St) (x : Int) (h : (s.1.length : Int) < x) : takeR s x = [] ∧ takeN s x = ([], true) := by
  unfold takeR takeN
  rw [if_neg (by omega), if_neg (by omega)]; exact ⟨rfl, rfl⟩
set_option maxRecDepth 100000 in
theorem take_bad (s : St) (x : Int) (hb : s.2 = true) (h : s.1 = []) : takeR s x = [] ∧ takeN s x = ([], true) := by
  obtain ⟨bs, bad⟩ := s
  subst hb; subst h
  unfold takeR takeN
  constructor <;> split <;> simp
set_option maxRecDepth 100000 in
theorem text_any (p : Nat) (T : TypeId) (P : Nat → Prop) (s : St) (w : World) (hr : Rdr w p T P s) (hP : ∀ b, P b → b ≠ p) (hl : s.1.length ≤ 140737488355000) :
    Calls Try.prog 70 #[.pointer (some ⟨p, 0, none⟩)] w (RawPost w p T P (textR s) (textN s)) := by
  have hbd := varR_bd s hr.byt
  have hvl := varN_le s
  have R1 := Lib.hid (show textR s = takeR (varN s) (varR s) from rfl)
  have R2 := Lib.hid (show textN s = takeN (varN s) (varR s) from rfl)
  go_enter Try.func70, Try.ntmps70
  go_wp2_with fail
  refine (var_any p T P s w hr hP).mono ?_
  rintro e w1 ⟨rfl, hr1, hk1⟩
  clear hr
  obtain ⟨x, hx⟩ : ∃ x, varR s = x := ⟨_, rfl⟩
  obtain ⟨s2, hs2⟩ : ∃ s2, varN s = s2 := ⟨_, rfl⟩
  rw [hx] at hbd R1 R2
  rw [hs2] at hr1 R1 R2 hvl
  rw [hx]
  clear hx hs2
  obtain ⟨hx0, hx1⟩ := hbd
  have HR := Lib.hid hr1
  obtain ⟨A, m, c, hA, hmc, hc, hAc, hrd, hbad⟩ := hr1
  have hc' := hc
  unfold maxLen at hc'
  have hlen := hrd.len
  have c0 := hA.cell 0
  have hto := take_out s2 x
  rw [hlen] at hvl hto
  have H := Lib.hid hA; clear hA hbad
  have HL := Lib.hid hlen; clear hlen
  rcases Int.lt_or_le (m : Int) x with hlt | hge
  · have T1 := Lib.hid (hto hlt)
    clear hto
    go_wp2_with fail
    refine (spoil_any p T _ _ w1 H.out).mono ?_
    rintro e w2 ⟨rfl, hA', hk'⟩
    go_wp2_with fail
    go_ret
    exact ⟨_, rfl, by rw [R1.out, T1.out.1]; exact Own.none_ _ _ _, by rw [R2.out, T1.out.2]; exact Rdr.of_spoil hA', hk1.trans hk'⟩
  · clear hto
    go_wp2_with fail
    refine (raw_any p T P s2 x w1 HR.out hP (by rw [HL.out]; omega)).mono ?_
    rintro e w2 ⟨v, rfl, hown, hr', hk'⟩
    go_wp2_with fail
    go_ret
    exact ⟨_, rfl, by rw [R1.out]; exact hown.base_ hk1.size, by rw [R2.out]; exact hr', hk1.trans hk'⟩
set_option maxRecDepth 100000 in
set_option maxHeartbeats 1000000 in
theorem rtext_any (p : Nat) (T : TypeId) (P : Nat → Prop) (s : St) (w : World) (hr : Rdr w p T P s) (hP : ∀ b, P b → b ≠ p) (hl : s.1.length ≤ 140737488355000) :
    Calls Try.prog 56 #[.pointer (some ⟨p, 0, none⟩)] w (RawPost w p T P (textR s) (textN s)) := by
  have hbd := varR_bd s hr.byt
  have hvl := varN_le s
  have R1 := Lib.hid (show textR s = takeR (varN s) (varR s) from rfl)
  have R2 := Lib.hid (show textN s = takeN (varN s) (varR s) from rfl)
  go_enter Try.func56, Try.ntmps56
  go_wp2_with fail
  refine (rvar_any p T P s w hr hP).mono ?_
  rintro e w1 ⟨rfl, hr1, hk1⟩
  clear hr
  obtain ⟨x, hx⟩ : ∃ x, varR s = x := ⟨_, rfl⟩
  obtain ⟨s2, hs2⟩ : ∃ s2, varN s = s2 := ⟨_, rfl⟩
  rw [hx] at hbd R1 R2
  rw [hs2] at hr1 R1 R2 hvl
  rw [hx]
  clear hx hs2
  obtain ⟨hx0, hx1⟩ := hbd
  have HR := Lib.hid hr1
  obtain ⟨A, m, c, hA, hmc, hc, hAc, hrd, hbad⟩ := hr1
  have hc' := hc
  unfold maxLen at hc'
  have hlen := hrd.len
  have c0 := hA.cell 0
  have c1 := hA.cell 1
  have f0 := hA.frozen 0
  have f1 := hA.frozen 1
  have hto := take_out s2 x
  have htb := fun h => take_bad s2 x h (hbad h)
  rw [hlen] at hvl hto
  have HS := Lib.hid ((hA.set 1 (.bool true)).set 0 (.slice none 0 0))
  have H := Lib.hid hA; clear hA hbad
  have HL := Lib.hid hlen; clear hlen
  obtain ⟨bs, bad⟩ := s2
  cases bad with
  | true =>
    have T1 := Lib.hid (htb rfl)
    clear hto htb
    go_wp2_with fail
    go_ret
    exact ⟨_, rfl, by rw [R1.out, T1.out.1]; exact Own.none_ _ _ _, by rw [R2.out, T1.out.2]; exact Rdr.of_spoil HS.out, (hk1.setAt _ _).setAt _ _⟩
  | false =>
    clear htb
    rcases Int.lt_or_le (m : Int) x with hlt | hge
    · have T1 := Lib.hid (hto hlt)
      clear hto
      go_wp2_with fail
      go_ret
      exact ⟨_, rfl, by rw [R1.out, T1.out.1]; exact Own.none_ _ _ _, by rw [R2.out, T1.out.2]; exact Rdr.of_spoil HS.out, (hk1.setAt _ _).setAt _ _⟩
    · clear hto
      go_wp2_with fail
      refine (rraw_any p T P (bs, false) x w1 HR.out hP (by rw [HL.out]; omega)).mono ?_
      rintro e w2 ⟨v, rfl, hown, hr', hk'⟩
      go_wp2_with fail
      go_ret
      exact ⟨_, rfl, by rw [R1.out]; exact hown.base_ hk1.size, by rw [R2.out]; exact hr', hk1.trans hk'⟩
set_option maxRecDepth 100000 in
theorem of_any (A : Option Addr) (n c : Nat) (bs : List Int) (w : World) (hr : Rd w w.heap.size A n bs) (hc : n ≤ 140737488355000) (hA : A = none → c = 0) :
    Calls Try.prog 42 #[.slice A n c] w fun e w' => ∃ p, e = .returned (.pointer (some ⟨p, 0, none⟩)) ∧ w.heap.size ≤ p ∧
      Rdr w' p 108 (fun b => w.heap.size ≤ b ∧ b < p) (bs, false) ∧ Below w.heap.size w w' := by
  have HL := Lib.hid hr.1
  go_enter Try.func42, Try.ntmps42
  go_wp2_with fail
  refine (clone_any A n c bs w hr hc hA).mono ?_
  rintro e w1 ⟨v, rfl, hown, hb⟩
  have hsz := hb.size
  obtain ⟨A', c', rfl, h1, h2, h3⟩ := hown.open_n n HL.out
  have hAc : A' = none → c' = 0 := by
    intro h
    subst h
    rcases hown.1.2 with ⟨h, _⟩ | ⟨g, cap, cur, h, _⟩
    · injection h
    · injection h with h; cases h
  have hP := (hown.rdP HL.out).mono (P' := fun b => w.heap.size ≤ b ∧ b < w1.heap.size) (fun b hb' e => ⟨(hown.block_lt b e).1, hb'⟩)
  go_wp2_with fail
  go_ret
  refine ⟨_, rfl, hsz, ⟨A', n, c', At.new w1 _ _, h1, h2, hAc, hP.kept ((Kept.refl (fun _ => False) _).alloc _) (fun _ _ h => h), fun h => by cases h⟩, hb.alloc hsz _⟩
end Go.Proofs.Ytcobcgbpmkpljaa
