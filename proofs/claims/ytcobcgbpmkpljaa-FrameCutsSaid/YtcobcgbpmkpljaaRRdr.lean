/-
  The document's own reader (narthexref2) answers what package octet's does; Two and Text and Of of package octet.
-/
import Derived.Test.YtcobcgbpmkpljaaRdr
import Derived.Test.YtcobcgbpmkpljaaRefGet
namespace Go.Proofs.Ytcobcgbpmkpljaa
set_option linter.unusedVariables false
open Go.RowKit
set_option maxRecDepth 100000 in
set_option maxHeartbeats 1000000 in
theorem rraw_any (p : Nat) (T : TypeId) (P : Nat → Prop) (s : St) (n : Int) (w : World) (hr : Rdr w p T P s) (hP : ∀ b, P b → b ≠ p) (hl : s.1.length ≤ 140737488355000) :
    Calls Try.prog 57 #[.pointer (some ⟨p, 0, none⟩), .int .i64 n] w (RawPost w p T P (takeR s n) (takeN s n)) := by
  obtain ⟨i0, hi, hz0, hz1, hz2⟩ := info_parts u8_info
  obtain ⟨A, m, c, hA, hmc, hc, hAc, hrd, hbad⟩ := hr
  have hc' := hc
  unfold maxLen at hc'
  have hlen := hrd.len
  have c0 := hA.cell 0
  have c1 := hA.cell 1
  have f0 := hA.frozen 0
  have f1 := hA.frozen 1
  have hpl := hA.lt
  obtain ⟨bs, bad⟩ := s
  by_cases hn : bad = false ∧ 0 ≤ n ∧ n ≤ m
  · obtain ⟨rfl, hn0, hn1⟩ := hn
    obtain ⟨k, rfl⟩ := Int.eq_ofNat_of_zero_le hn0
    have hk : k ≤ m := by omega
    have R1 := Lib.hid (show takeR (bs, false) (k : Int) = bs.take k by unfold takeR; rw [if_pos (by rw [hlen]; omega)]; simp)
    have R2 := Lib.hid (show takeN (bs, false) (k : Int) = (bs.drop k, false) by unfold takeN; rw [if_pos (by rw [hlen]; omega)]; simp)
    have rd1 := Lib.hid (hrd.cutTo hk)
    have rd2 := Lib.hid (hrd.cutFrom hk hmc)
    have hkl : (bs.take k).length = k := by rw [List.length_take, hlen]; omega
    have HK := Lib.hid hkl
    have H := Lib.hid hA
    have HL := Lib.hid hlen
    have hm47 : m ≤ 140737488355000 := by rw [← hlen]; exact hl
    clear hA hlen hrd hbad hl hkl
    cases A with
    | none =>
      obtain rfl := hAc rfl
      obtain rfl : m = 0 := by omega
      obtain rfl : k = 0 := by omega
      clear hAc
      go_enter Try.func57, Try.ntmps57
      go_wp2_with (at_builtin; refine wpList_append_rd rfl (.tmp 29) (.tmp 35) 26 rfl w.heap.size 5 i0 Try.underlying26 hi hz0 hz1 hz2 _ [] rfl (Own.of_block (n := 0) (cap := 0) Byt.nil rfl (heap_alloc_new w _) (Nat.le_refl _) (Nat.le_refl _) (Nat.zero_le _) rfl rfl) _ none 0 0 _ rfl (rd1.out.1.alloc (Nat.le_refl _) _) (by rw [List.length_nil]; omega) w ((Below.refl _ _).alloc (Nat.le_refl _) _) (by simp) ?_; intro v2 w2 hown2 hb2 hgr2; have A2 := Lib.hid (H.out.below hb2 hpl); have d0 := A2.out.cell 0; have g0 := A2.out.frozen 0; clear hgr2)
      go_ret
      exact ⟨v2, rfl, by rw [show takeR (bs, false) 0 = List.take 0 bs from R1.out]; exact (hown2.cast (List.nil_append _)).kept ((Kept.refl (· = p) _).setAt _ _) (fun j hj e => by have := (hown2.block_lt j hj).1; omega), by rw [show takeN (bs, false) 0 = (List.drop 0 bs, false) from R2.out]; exact ⟨_, _, _, A2.out.set 0 _, Nat.le_refl _, by unfold maxLen; omega, by simp, rd2.out.kept ((Kept.of_below hb2 _).setAt _ _) hP, fun h => by cases h⟩, ((Kept.of_below hb2 _).setAt _ _)⟩
    | some ad =>
      by_cases hck : c = k
      · obtain rfl := hck
        obtain rfl : m = c := by omega
        go_enter Try.func57, Try.ntmps57
        go_wp2_with (at_builtin; refine wpList_append_rd rfl (.tmp 29) (.tmp 35) 26 rfl w.heap.size 5 i0 Try.underlying26 hi hz0 hz1 hz2 _ [] rfl (Own.of_block (n := 0) (cap := 0) Byt.nil rfl (heap_alloc_new w _) (Nat.le_refl _) (Nat.le_refl _) (Nat.zero_le _) rfl rfl) _ (some ad) m m _ rfl (rd1.out.1.alloc (Nat.le_refl _) _) (by rw [List.length_nil]; omega) w ((Below.refl _ _).alloc (Nat.le_refl _) _) (by simp) ?_; intro v2 w2 hown2 hb2 hgr2; have A2 := Lib.hid (H.out.below hb2 hpl); have d0 := A2.out.cell 0; have g0 := A2.out.frozen 0; clear hgr2)
        go_ret
        exact ⟨v2, rfl, by rw [R1.out]; exact (hown2.cast (List.nil_append _)).kept ((Kept.refl (· = p) _).setAt _ _) (fun j hj e => by have := (hown2.block_lt j hj).1; omega), by rw [R2.out]; exact ⟨_, _, _, A2.out.set 0 _, Nat.le_refl _, by unfold maxLen; omega, by simp, (by rw [show List.drop m bs = [] from List.drop_eq_nil_of_le (by rw [HL.out]; omega)]; exact RdP.none_ _ _ _), fun h => by cases h⟩, ((Kept.of_below hb2 _).setAt _ _)⟩
      · have hcut : cutA (some ad) c k = some (ad.add k) := by simp [cutA, hck]
        have rd3 := Lib.hid (hcut ▸ rd2.out)
        clear hcut
        go_enter Try.func57, Try.ntmps57
        go_wp2_with (at_builtin; refine wpList_append_rd rfl (.tmp 29) (.tmp 35) 26 rfl w.heap.size 5 i0 Try.underlying26 hi hz0 hz1 hz2 _ [] rfl (Own.of_block (n := 0) (cap := 0) Byt.nil rfl (heap_alloc_new w _) (Nat.le_refl _) (Nat.le_refl _) (Nat.zero_le _) rfl rfl) _ (some ad) k c _ rfl (rd1.out.1.alloc (Nat.le_refl _) _) (by rw [List.length_nil]; omega) w ((Below.refl _ _).alloc (Nat.le_refl _) _) (by simp) ?_; intro v2 w2 hown2 hb2 hgr2; have A2 := Lib.hid (H.out.below hb2 hpl); have d0 := A2.out.cell 0; have g0 := A2.out.frozen 0; clear hgr2)
        go_ret
        exact ⟨v2, rfl, by rw [R1.out]; exact (hown2.cast (List.nil_append _)).kept ((Kept.refl (· = p) _).setAt _ _) (fun j hj e => by have := (hown2.block_lt j hj).1; omega), by rw [R2.out]; exact ⟨_, _, _, A2.out.set 0 _, by omega, by unfold maxLen; omega, by simp, rd3.out.kept ((Kept.of_below hb2 _).setAt _ _) hP, fun h => by cases h⟩, ((Kept.of_below hb2 _).setAt _ _)⟩
  · have R1 := Lib.hid (show takeR (bs, bad) n = [] by
      unfold takeR
      split
      · next h =>
        cases bad with
        | false => exact absurd ⟨rfl, h.1, by rw [← hlen]; exact h.2⟩ hn
        | true => simp [show bs = [] from hbad rfl]
      · rfl)
    have R2 := Lib.hid (show takeN (bs, bad) n = ([], true) by
      unfold takeN
      split
      · next h =>
        cases bad with
        | false => exact absurd ⟨rfl, h.1, by rw [← hlen]; exact h.2⟩ hn
        | true => simp [show bs = [] from hbad rfl]
      · rfl)
    have hs := (hA.set 1 (.bool true)).set 0 (.slice none 0 0)
    have HS := Lib.hid hs
    have H := Lib.hid hA
    clear hA hlen hrd hs hl hbad
    have hcase : bad = true ∨ (bad = false ∧ n < 0) ∨ (bad = false ∧ 0 ≤ n ∧ (m : Int) < n) := by
      cases bad with
      | true => exact .inl rfl
      | false =>
        right
        by_cases h : n < 0
        · exact .inl ⟨rfl, h⟩
        · exact .inr ⟨rfl, by omega, by
            rcases Int.lt_or_le (m : Int) n with h1 | h1
            · exact h1
            · exact absurd ⟨rfl, by omega, h1⟩ hn⟩
    clear hn
    rcases hcase with rfl | ⟨rfl, hn⟩ | ⟨rfl, hn0, hn1⟩
    all_goals
      go_enter Try.func57, Try.ntmps57
      go_wp2
      go_ret
      exact ⟨.slice none 0 0, rfl, by rw [R1.out]; exact Own.none_ _ _ _, by rw [R2.out]; exact Rdr.of_spoil HS.out, ((Kept.refl _ _).setAt _ _).setAt _ _⟩
set_option maxRecDepth 100000 in
theorem Rdr.drewN {w : World} {p : Nat} {T : TypeId} {P : Nat → Prop} {s : St} (h : Rdr w p T P s) (n : Nat) : Rdr (w.drewN n) p T P s := h.kept ((Kept.refl (fun _ => False) w).drewN n) (fun h => h) (fun _ _ h => h)
set_option maxRecDepth 100000 in
theorem rbyte_any (p : Nat) (T : TypeId) (P : Nat → Prop) (s : St) (w : World) (hr : Rdr w p T P s) (hP : ∀ b, P b → b ≠ p) (hl : s.1.length ≤ 140737488355000) :
    Calls Try.prog 59 #[.pointer (some ⟨p, 0, none⟩)] w (NumPost .u8 w p T P (byteR s) (takeN s 1)) := by
  have RV := Lib.hid (show byteR s = (takeR s 1).getD 0 0 from rfl)
  go_enter Try.func59, Try.ntmps59
  go_wp2_with fail
  refine (rraw_any p T P s 1 w hr hP hl).mono ?_
  rintro e w1 ⟨v, rfl, hown, hr', hk'⟩
  obtain ⟨A, c, rfl, hkc, hc, hrd⟩ := hown.open_
  have hk1 : (takeR s 1).length = 1 ∨ (takeR s 1).length = 0 := by
    unfold takeR; split <;> simp; omega
  obtain ⟨T1, hT1⟩ : ∃ T1, takeR s 1 = T1 := ⟨_, rfl⟩
  rw [hT1] at hrd hk1 RV hkc
  rw [hT1]
  clear hT1 hown
  unfold maxLen at hc
  rcases hk1 with hk1 | hk1
  · rw [hk1] at hrd hkc
    rw [hk1]
    obtain ⟨b, off, rfl, hb, hcell⟩ := hrd.2.2 (by omega)
    have c1 := hcell 0 (by omega)
    rw [Nat.add_zero] at c1
    clear hcell hr hrd hk1
    go_wp2_with fail
    go_ret
    exact ⟨by rw [RV.out]; rfl, hr', hk'⟩
  · have hT : T1 = [] := List.eq_nil_of_length_eq_zero hk1
    rw [hT] at RV hkc
    rw [hT]
    clear hr hT hrd hk1
    go_wp2_with fail
    go_ret
    exact ⟨by rw [RV.out]; rfl, hr', hk'⟩
set_option maxRecDepth 100000 in
theorem or_u16 (x y : Int) (hx0 : 0 ≤ x) (hx1 : x < 256) (hy0 : 0 ≤ y) (hy1 : y < 256) : bits BinOp.or IntKind.u16 (x * 256) y = x * 256 + y := by
  rw [u16_or _ _ (by omega) (by omega) hy0 (by omega), nat_join 8 _ _ (by omega) (by omega)]; omega
set_option maxRecDepth 100000 in
theorem takeR2 (s : St) : (takeR s 2).length = 2 ∨ (takeR s 2).length = 0 := by
  unfold takeR; split <;> simp; omega
end Go.Proofs.Ytcobcgbpmkpljaa
