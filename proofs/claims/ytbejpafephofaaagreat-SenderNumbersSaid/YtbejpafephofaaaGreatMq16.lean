/-
  frame.Right, for every frame.
-/
import Derived.Test.YtbejpafephofaaaGreatMq15
import Derived.Test.YtbejpafephofaaaGreatProg
import Derived.Test.YtbejpafephofaaaGreatMq13
import Derived.Test.YtbejpafephofaaaGreatMq0
namespace Go.Proofs.YtbejpafephofaaaGreat
section
set_option linter.unusedVariables false
set_option linter.unusedSimpArgs false
open Go.RowKit
def rightB (m : FN) (ds : List Int) (rs : RS) : Bool := knownB m.k && nrB (askN m) && drB (askN m) (askDs m.k ds).length && (m.k != 2 || rrB rs)
section
variable {ops : Array Oper} {rest : List Oper} {a : Act} {w : World} {Q : Exit → Act → World → Prop} {dst : Option Tmp} {x y : Operand} {t : TypeId} {pos : String} {after : Array Edge} {g : Option (Nat × Bool)}
/-- A whole frame's load, its guard met. -/
theorem ld_fr_g (p : Nat) (l : List Value) (hg : Region.wanted ⟨dst, .load 51 x, t, pos, after, g⟩ (yielded ops a.tmps) = true) (hx : a.eval x = .pointer (some ⟨p, 0, none⟩)) (hA : At w p 51 l) (hl : l.length = 19)
    (h : wpList Tryz.prog ops Q rest (a.put dst (.agg l.toArray)) w) : wpList Tryz.prog ops Q (⟨dst, .load 51 x, t, pos, after, g⟩ :: rest) a w := by
  refine wpList_step fun K hK => ?_
  rw [if_pos hg]
  exact wp_load_mid _ _ rfl p 0 hx l _ hA.rangeAt Tryz.underlying51 rfl (by rw [hl]; exact fr_info) (hK _ _ h)
end
theorem askD_n {w : World} {P : Nat → Prop} {d : Sl} {ds : List Int} (k : Int) (h : InD w P d ds) : (askD k d).n = (askDs k ds).length := by
  unfold askD askDs
  split
  · exact h.rd.len.symm
  · rfl
set_option maxRecDepth 100000 in
set_option maxHeartbeats 1000000 in
theorem right_any (P : Nat → Prop) (m : FN) (d r : Sl) (ds : List Int) (rs : RS) (w : World) (hf : Fits w P m d r ds rs) (hkk : m.k = 0 ∨ m.k = 4 ∨ m.k = 8) : Calls Tryz.prog 73 #[frV m d r] w (FrPost (.bool (rightB m ds rs)) w) := by
  have hak := hf.ask
  have hdn := askD_n m.k hf.dt
  obtain ⟨m', hm'⟩ : ∃ m', askN m = m' := ⟨_, rfl⟩
  obtain ⟨d', hd'⟩ : ∃ x, askD m.k d = x := ⟨_, rfl⟩
  obtain ⟨r', hr'⟩ : ∃ x, askR m.k r = x := ⟨_, rfl⟩
  obtain ⟨ds', hds'⟩ : ∃ x, askDs m.k ds = x := ⟨_, rfl⟩
  obtain ⟨rs', hrs'⟩ : ∃ x, askRs m.k rs = x := ⟨_, rfl⟩
  have hkk2 : m'.k = m.k := by rw [← hm']; exact askN_k m
  have hrr : m.k = 2 → rs' = rs := fun h => by rw [← hrs']; unfold askRs; rw [if_pos h]
  have hR : rightB m ds rs = (knownB m.k && nrB m' && drB m' ds'.length && (m.k != 2 || rrB rs')) := by
    unfold rightB
    rw [hm', hds']
    by_cases h : m.k = 2
    · rw [hrr h]
    · have : (m.k != 2) = true := by simpa using h
      rw [this]; simp
  have hC := fun w => asked_any m d r w hkk
  unfold AskedPost at hC
  rw [hm', hd', hr'] at hC
  rw [hm', hd', hr', hds', hrs'] at hak
  rw [hd', hds'] at hdn
  clear hm' hd' hr' hds' hrs' hrr
  obtain ⟨kb, hkb⟩ : ∃ x, knownB m.k = x := ⟨_, rfl⟩
  rw [hkb] at hC hR
  clear hkb hf
  have HC := Lib.hid hC
  have HR := Lib.hid hR
  have HD := Lib.hid hdn
  have HK := Lib.hid hkk2
  obtain ⟨k1, hk1⟩ : ∃ x, m.k = x := ⟨_, rfl⟩
  rw [hk1] at HR HK
  clear hC hR hdn hk1 hkk2 hkk
  have hA0 : At (w.alloc (.cells (frL m d r).toArray 51)) w.heap.size 51 (frL m d r) := At.new w _ _
  have hB0 : Below w.heap.size w (w.alloc (.cells (frL m d r).toArray 51)) := (Below.refl _ _).alloc (Nat.le_refl _) _
  have hs0 : (w.alloc (.cells (frL m d r).toArray 51)).heap.size = w.heap.size + 1 := by simp
  have HA0 := Lib.hid hA0
  have HB0 := Lib.hid hB0
  have HS0 := Lib.hid hs0
  clear hA0 hB0 hs0
  obtain ⟨L, hL⟩ : ∃ L, frL m d r = L := ⟨_, rfl⟩
  have hLl : L.length = 19 := by rw [← hL]; rfl
  have hfv : frV m d r = .agg L.toArray := by rw [← hL]; rfl
  rw [hL] at HA0 HB0 HS0
  rw [hfv] at HC ⊢
  clear hL hfv
  have HLl := Lib.hid hLl
  clear hLl
  have HNR := Lib.hid (fun W => nr_any m' d' r' W hak.wf)
  have HDR := Lib.hid (fun (W : World) (h1 : m'.o ≤ 1099511627776) => dr_any m' d' r' W hak.wf.o0 h1 hak.dt.lc hak.dt.cm)
  have HFI := Lib.hid hak
  clear hak
  obtain ⟨L', hL'⟩ : ∃ L, frL m' d' r' = L := ⟨_, rfl⟩
  have hLl' : L'.length = 19 := by rw [← hL']; rfl
  have hone : L'.all (·.oneCell') = true := by rw [← hL']; rfl
  have hc0 : L'[0]? = some (.int .i64 m'.k) := by rw [← hL']; rfl
  have hc10 : L'[10]? = some (.slice r'.A r'.n r'.c) := by rw [← hL']; rfl
  have hfv' : frV m' d' r' = .agg L'.toArray := by rw [← hL']; rfl
  rw [hfv'] at HC HNR HDR
  clear hL' hfv'
  have HLl' := Lib.hid hLl'
  have HO := Lib.hid hone
  have HC0 := Lib.hid hc0
  have HC10 := Lib.hid hc10
  clear hLl' hone hc0 hc10
  have hnb : nrB m' = true → m'.o ≤ 1099511627776 := fun h => by
    simp [nrB] at h; exact h.1.1.2
  obtain ⟨nb, hnb'⟩ : ∃ x, nrB m' = x := ⟨_, rfl⟩
  rw [hnb'] at hnb HNR HR
  rw [HD.out] at HDR
  obtain ⟨db, hdb'⟩ : ∃ x, drB m' ds'.length = x := ⟨_, rfl⟩
  rw [hdb'] at HDR HR
  clear hnb' hdb'
  obtain ⟨kk, hkk⟩ : ∃ x, m'.k = x := ⟨_, rfl⟩
  rw [hkk] at HK HC0
  have HNB := Lib.hid hnb
  clear hnb hkk
  have hk : (kk == 2) = (k1 == 2) := by rw [HK.out]
  obtain ⟨rA, rn, rc⟩ := r'
  cases kb with
  | false =>
    have HRR : Hid (rightB m ds rs = false) := Lib.hid (by rw [HR.out]; simp)
    go_enter Tryz.func73, Tryz.ntmps73
    go_wp2_with (first | ((with_reducible refine at_ld ?_); refine ld_fr_g _ _ (by rfl) (by rfl) HA0.out HLl.out ?_) | fail)
    refine (HC.out _).mono ?_
    rintro e w1 ⟨rfl, hb1⟩
    have hA1 := HA0.out.below hb1 (by rw [HS0.out]; omega)
    have hB1 : Below w.heap.size w w1 := HB0.out.trans (hb1.mono (by rw [HS0.out]; omega))
    have HA1 := Lib.hid hA1
    have HB1 := Lib.hid hB1
    have hp1 : w.heap.size < w1.heap.size := hA1.lt
    clear hb1 hA1 hB1
    go_wp2_with (first | ((with_reducible refine at_st ?_); refine st_at _ _ _ (by rfl) (by rfl) HA1.out HLl.out HLl'.out HO.out ?_; intro w2 hA2 hK2) | ((with_reducible refine at_ld ?_); refine ld_fr_g _ _ (by rfl) (by rfl) hA2 HLl'.out ?_) | fail)
    all_goals
      go_ret
      exact ⟨by rw [HRR.out]; rfl, hK2.below HB1.out (by omega) (fun j hj => by omega)⟩
  | true =>
    go_enter Tryz.func73, Tryz.ntmps73
    go_wp2_with (first | ((with_reducible refine at_ld ?_); refine ld_fr_g _ _ (by rfl) (by rfl) HA0.out HLl.out ?_) | fail)
    refine (HC.out _).mono ?_
    rintro e w1 ⟨rfl, hb1⟩
    have hA1 := HA0.out.below hb1 (by rw [HS0.out]; omega)
    have hB1 : Below w.heap.size w w1 := HB0.out.trans (hb1.mono (by rw [HS0.out]; omega))
    have HA1 := Lib.hid hA1
    have HB1 := Lib.hid hB1
    have hp1 : w.heap.size < w1.heap.size := hA1.lt
    clear hb1 hA1 hB1
    go_wp2_with (first | ((with_reducible refine at_st ?_); refine st_at _ _ _ (by rfl) (by rfl) HA1.out HLl.out HLl'.out HO.out ?_; intro w2 hA2 hK2) | ((with_reducible refine at_ld ?_); refine ld_fr_g _ _ (by rfl) (by rfl) hA2 HLl'.out ?_) | fail)
    have hB2 : Below w.heap.size w w2 := hK2.below HB1.out (by omega) (fun j hj => by omega)
    have hp2 : w.heap.size < w2.heap.size := hA2.lt
    have HA2 := Lib.hid hA2
    have HB2 := Lib.hid hB2
    have HF2 := Lib.hid (HFI.out.below hB2)
    clear hA2 hB2 hK2 hp1
    refine (HNR.out _).mono ?_
    rintro e w3 ⟨rfl, hb3⟩
    have hA3 := HA2.out.below hb3 hp2
    have hB3 : Below w.heap.size w w3 := HB2.out.trans (hb3.mono (by omega))
    have hp3 : w.heap.size < w3.heap.size := hA3.lt
    have HF3 := Lib.hid (HF2.out.below hb3)
    have HA3 := Lib.hid hA3
    have HB3 := Lib.hid hB3
    clear hA3 hB3 hb3
    cases nb with
    | false =>
      have HRR : Hid (rightB m ds rs = false) := Lib.hid (by rw [HR.out]; simp)
      go_wp2_with fail
      all_goals
        go_ret
        exact ⟨by rw [HRR.out]; rfl, HB3.out⟩
    | true =>
      go_wp2_with (first | ((with_reducible refine at_ld ?_); refine ld_fr_g _ _ (by rfl) (by rfl) HA3.out HLl'.out ?_) | fail)
      refine (HDR.out _ (HNB.out (by trivial))).mono ?_
      rintro e w4 ⟨rfl, hb4⟩
      have hA4 := HA3.out.below hb4 hp3
      have hB4 : Below w.heap.size w w4 := HB3.out.trans (hb4.mono (by omega))
      have HF4 := Lib.hid (HF3.out.below hb4)
      have e0 := (hA4.cell 0).trans HC0.out
      have e10 := (hA4.cell 10).trans HC10.out
      have HB4 := Lib.hid hB4
      clear hA4 hB4 hb4
      cases db with
      | false =>
        have HRR : Hid (rightB m ds rs = false) := Lib.hid (by rw [HR.out]; simp)
        go_wp2_with fail
        all_goals
          go_ret
          exact ⟨by rw [HRR.out]; rfl, HB4.out⟩
      | true =>
        cases h2 : (k1 == 2) with
        | false =>
          have hk2 : (kk == 2) = false := hk.trans h2
          have hk3 : (kk != 2) = true := by simp only [bne, hk2]; rfl
          have HRR : Hid (rightB m ds rs = true) := Lib.hid (by rw [HR.out]; simp [bne, h2])
          clear hk h2
          go_wp2_with fail
          all_goals
            go_ret
            exact ⟨by rw [HRR.out]; rfl, HB4.out⟩
        | true =>
          have hk2 : (kk == 2) = true := hk.trans h2
          have hk3 : (kk != 2) = false := by simp only [bne, hk2]; rfl
          have HRR : Hid (rightB m ds rs = rrB rs') := Lib.hid (by rw [HR.out]; simp [bne, h2])
          clear hk h2
          go_wp2_with fail
          refine (rr_any _ ⟨rA, rn, rc⟩ _ _ HF4.out.rg).mono ?_
          rintro e w5 ⟨rfl, hb5⟩
          go_wp2_with fail
          all_goals
            go_ret
            exact ⟨by rw [HRR.out]; rfl, HB4.out.trans (hb5.mono HB4.out.size)⟩
end
section
set_option linter.unusedVariables false
open Go.RowKit
end
section
set_option linter.unusedVariables false
open Go.RowKit
def clsS (x : Int) : Int := if x < 64 then 0 else if x < 16384 then 1 else if x < 1073741824 then 2 else 3
def sizeS (x : Int) : Nat := if x < 64 then 1 else if x < 16384 then 2 else if x < 1073741824 then 4 else if x ≤ 4611686018427387903 then 8 else 0
/-- x with what its length adds to its highest byte. -/
def putM (x : Int) : Int := x + clsS x * 2 ^ (8 * sizeS x - 2)
/-- The first byte first: byte i of the s bytes of m. -/
def byteS (s : Nat) (m : Int) (i : Nat) : Int := m / 2 ^ (8 * (s - 1 - i)) % 256
def beS (s : Nat) (m : Int) : List Int := (List.range s).map (byteS s m)
/-- The bytes of x. -/
def putS (x : Int) : List Int := beS (sizeS x) (putM x)
theorem clsS_bd (x : Int) : 0 ≤ clsS x ∧ clsS x ≤ 3 := by unfold clsS; (repeat' split) <;> omega
theorem size_pos (x : Int) (h : x ≤ 4611686018427387903) : 1 ≤ sizeS x := by unfold sizeS; (repeat' split) <;> omega
theorem size_le (x : Int) : sizeS x ≤ 8 := by unfold sizeS; (repeat' split) <;> omega
theorem size_big (x : Int) (h : 4611686018427387903 < x) : sizeS x = 0 := by unfold sizeS; (repeat' split) <;> omega
theorem size_cls (x : Int) (h : x ≤ 4611686018427387903) : wrap64 (2 ^ (clsS x).toNat) = (sizeS x : Int) := by
  unfold clsS sizeS
  rw [wrapI]
  by_cases h1 : x < 64
  · rw [if_pos h1, if_pos h1]; rfl
  · rw [if_neg h1, if_neg h1]
    by_cases h2 : x < 16384
    · rw [if_pos h2, if_pos h2]; rfl
    · rw [if_neg h2, if_neg h2]
      by_cases h3 : x < 1073741824
      · rw [if_pos h3, if_pos h3]; rfl
      · rw [if_neg h3, if_neg h3, if_pos h]; rfl
/-- The four lengths. -/
theorem size_cases (x : Int) (h0 : 0 ≤ x) (h : x ≤ 4611686018427387903) :
    (sizeS x = 1 ∧ clsS x = 0 ∧ putM x = x ∧ x < 64) ∨ (sizeS x = 2 ∧ clsS x = 1 ∧ putM x = x + 16384 ∧ x < 16384) ∨
    (sizeS x = 4 ∧ clsS x = 2 ∧ putM x = x + 2147483648 ∧ x < 1073741824) ∨ (sizeS x = 8 ∧ clsS x = 3 ∧ putM x = x + 13835058055282163712 ∧ x < 4611686018427387904) := by
  unfold putM clsS sizeS
  by_cases h1 : x < 64
  · refine .inl ?_; simp [h1]
  · by_cases h2 : x < 16384
    · refine .inr (.inl ?_); simp [h1, h2]
    · by_cases h3 : x < 1073741824
      · refine .inr (.inr (.inl ?_)); simp [h1, h2, h3]
      · refine .inr (.inr (.inr ?_)); simp [h1, h2, h3, h]; omega
theorem put_or (x : Int) (h0 : 0 ≤ x) (h : x ≤ 4611686018427387903) :
    bits BinOp.or IntKind.u64 x (IntKind.u64.wrap (clsS x * 2 ^ (8 * sizeS x - 2))) = putM x := by
  rcases size_cases x h0 h with ⟨a, b, c, d⟩ | ⟨a, b, c, d⟩ | ⟨a, b, c, d⟩ | ⟨a, b, c, d⟩ <;> rw [a, b, c, IntKind.wrap_u64]
  · rw [show (0 : Int) * 2 ^ (8 * 1 - 2) % 18446744073709551616 = 0 by decide, u64_or _ _ h0 (by omega) (by omega) (by omega)]; simp; omega
  · rw [show (1 : Int) * 2 ^ (8 * 2 - 2) % 18446744073709551616 = 16384 by decide, u64_or _ _ h0 (by omega) (by omega) (by omega), Nat.or_comm, nat_join 14 _ _ (by decide) (by omega)]; omega
  · rw [show (2 : Int) * 2 ^ (8 * 4 - 2) % 18446744073709551616 = 2147483648 by decide, u64_or _ _ h0 (by omega) (by omega) (by omega), Nat.or_comm, nat_join 30 _ _ (by decide) (by omega)]; omega
  · rw [show (3 : Int) * 2 ^ (8 * 8 - 2) % 18446744073709551616 = 13835058055282163712 by decide, u64_or _ _ h0 (by omega) (by omega) (by omega), Nat.or_comm, nat_join 62 _ _ (by decide) (by omega)]; omega
theorem putM_bd (x : Int) (h0 : 0 ≤ x) (h : x ≤ 4611686018427387903) : 0 ≤ putM x ∧ putM x < 18446744073709551616 := by
  rcases size_cases x h0 h with ⟨a, b, c, d⟩ | ⟨a, b, c, d⟩ | ⟨a, b, c, d⟩ | ⟨a, b, c, d⟩ <;> rw [c] <;> omega
theorem beS_len (s : Nat) (m : Int) : (beS s m).length = s := by simp [beS]
theorem beS_take (s : Nat) (m : Int) (k : Nat) (hk : k < s) : (beS s m).take (k + 1) = (beS s m).take k ++ [byteS s m k] := by
  have hl : k < (beS s m).length := by rw [beS_len]; exact hk
  rw [List.take_succ_eq_append_getElem hl]
  simp [beS]
theorem putS_len (x : Int) : (putS x).length = sizeS x := beS_len _ _
/-- What the document's own Put makes of the first byte, and of the others. -/
theorem put_first (x : Int) (h0 : 0 ≤ x) (h : x ≤ 4611686018427387903) :
    byteS (sizeS x) (putM x) 0 = x / 2 ^ (8 * (sizeS x - 1)) % 256 + (putM x - x) / 2 ^ (8 * (sizeS x - 1)) ∧ (x / 2 ^ (8 * (sizeS x - 1)) % 256) < 64 := by
  unfold byteS
  rcases size_cases x h0 h with ⟨a, b, c, d⟩ | ⟨a, b, c, d⟩ | ⟨a, b, c, d⟩ | ⟨a, b, c, d⟩ <;> rw [a, c] <;> simp <;> omega
theorem put_later (x : Int) (h0 : 0 ≤ x) (h : x ≤ 4611686018427387903) (i : Nat) (hi : 1 ≤ i) (his : i < sizeS x) :
    byteS (sizeS x) (putM x) i = x / 2 ^ (8 * (sizeS x - 1 - i)) % 256 := by
  unfold byteS
  rcases size_cases x h0 h with ⟨a, b, c, d⟩ | ⟨a, b, c, d⟩ | ⟨a, b, c, d⟩ | ⟨a, b, c, d⟩
  · omega
  · obtain rfl : i = 1 := by omega
    rw [a, c]; simp; omega
  · have : i = 1 ∨ i = 2 ∨ i = 3 := by omega
    rw [a, c]
    rcases this with rfl | rfl | rfl <;> simp <;> omega
  · have : i = 1 ∨ i = 2 ∨ i = 3 ∨ i = 4 ∨ i = 5 ∨ i = 6 ∨ i = 7 := by omega
    rw [a, c]
    rcases this with rfl | rfl | rfl | rfl | rfl | rfl | rfl <;> simp <;> omega
end
section
set_option linter.unusedVariables false
open Go.RowKit
theorem class_any (x : Int) (w : World) : Calls Tryz.prog 107 #[.int .u64 x] w fun e w' => e = .returned (.int .u64 (clsS x)) ∧ w = w' := by
  have hfin : clsS x = if x < 64 then 0 else if x < 16384 then 1 else if x < 1073741824 then 2 else 3 := rfl
  have H := Lib.hid hfin; clear hfin
  go_enter Tryz.func107, Tryz.ntmps107
  go_wp2
  all_goals
    go_ret
    exact ⟨ret_int (by rw [H.out]; (repeat' split) <;> omega), rfl⟩
theorem size_any (x : Int) (w : World) : Calls Tryz.prog 106 #[.int .u64 x] w fun e w' => e = .returned (.int .i64 (sizeS x)) ∧ w = w' := by
  rcases Int.lt_or_le 4611686018427387903 x with h | h
  · have H := Lib.hid (size_big x h)
    go_enter Tryz.func106, Tryz.ntmps106
    go_wp2
    go_ret
    exact ⟨by rw [H.out]; rfl, rfl⟩
  · have H := Lib.hid (size_cls x h)
    obtain ⟨hc0, hc1⟩ := clsS_bd x
    go_enter Tryz.func106, Tryz.ntmps106
    go_wp2_with (go_at_call 107; refine (class_any _ _).mono ?_; rintro e w' ⟨rfl, rfl⟩)
    go_ret
    exact ⟨ret_int (by rw [← H.out]), rfl⟩
theorem u8_info : (Tryz.prog.info? 5).map (fun i => (i.zero, i.size, i.bytes)) = some (some (.int .u8 0), 1, 1) := by kernel_rfl
theorem splice_takeP (Z X : List Value) (h : X.length ≤ Z.length) : ((splice Z 0 X).toArray).toList.take X.length = X := by
  simp [splice]
set_option maxRecDepth 100000 in
theorem putvar_yes (A : Option Addr) (n c : Nat) (bs : List Int) (x : Int) (w : World) (hr : Rd w w.heap.size A n bs) (hc : n ≤ 140737488355000) (h0 : 0 ≤ x) (h1 : x ≤ 4611686018427387903) :
    Calls Tryz.prog 104 #[.slice A n c, .int .u64 x] w fun e w' => ∃ v, e = .returned (.tuple #[v, .bool true]) ∧
      Own w' w.heap.size 5 v (bs ++ putS x) ∧ Below w.heap.size w w' := by
  obtain ⟨i0, hi, hz0, hz1, hz2⟩ := info_parts u8_info
  have hb0 := Below.refl w.heap.size w
  obtain ⟨hcl0, hcl1⟩ := clsS_bd x
  have hor := put_or x h0 h1
  have hM := putM_bd x h0 h1
  have hps : putS x = beS (sizeS x) (putM x) := rfl
  have hs8 := size_le x
  have hs1 := size_pos x h1
  obtain ⟨s, hs⟩ : ∃ s, sizeS x = s := ⟨_, rfl⟩
  obtain ⟨M, hMM⟩ : ∃ M, putM x = M := ⟨_, rfl⟩
  obtain ⟨cl, hcl⟩ : ∃ cl, clsS x = cl := ⟨_, rfl⟩
  have S := Lib.hid hs
  have CL := Lib.hid hcl
  rw [hs] at hor hps hs8 hs1
  rw [hMM] at hor hM hps
  rw [hcl] at hor hcl0 hcl1
  clear hs hMM hcl
  obtain ⟨hM0, hM1⟩ := hM
  have PS := Lib.hid hps; clear hps
  have hsz : ((s : Int) == 0) = false := by simp; omega
  go_enter Tryz.func104, Tryz.ntmps104
  go_wp2_with (first
    | (go_at_call 106; refine (size_any _ _).mono ?_; rintro e w' ⟨rfl, rfl⟩; rw [S.out])
    | (go_at_call 107; refine (class_any _ _).mono ?_; rintro e w' ⟨rfl, rfl⟩; rw [CL.out])
    | (at_make; refine wpList_make_lc rfl (.tmp 12) (.tmp 16) 22 rfl 5 i0 (.int .u8 0) Tryz.underlying22 hi hz0 hz1 .i64 .i64 _ _ n (n + s) rfl rfl rfl (by simp) (by omega) (by rw [hz2]; omega) (by unfold maxLen; omega) w.heap.size w hb0 (Nat.le_refl _) ?_; intro w1 g G1 GE hg hb1 hbw1)
    | (refine wpList_copy_rd rfl (.tmp 18) (.tmp 19) 22 22 rfl 5 Tryz.underlying22 (by rw [hi]; exact congrArg some hz1) n (n + s) n c A rfl rfl _ _ G1.out bs _ (hr.below hb1) (Nat.le_refl _) (by rw [madeL_len]; omega) w.heap.size w hb1 hg ?_; intro w2 G2 hb2))
  have hown2 : Own w2 w.heap.size 5 (.slice (some ⟨g, 0, none⟩) n (n + s)) bs := by
    refine Own.of_block hr.2.1 hr.1 G2.out hg (by omega) (by unfold maxLen; omega) ?_ ?_
    · simp [splice, madeL_len, hr.1]
    · have := splice_takeP (madeL (.int .u8 0) (n + s)) (bs.map (Value.int .u8)) (by rw [madeL_len]; simp [hr.1])
      simpa [hr.1] using this
  have hlen := hr.1
  have HL := Lib.hid hlen
  clear hr hb0 hb1 hbw1 G1 G2 GE hlen hor
  go_loopw [7, 8] (fun v sh wr => ∃ k : Nat, k ≤ s ∧ sh = .int .i64 (8 * ((s : Int) - 1) - 8 * (k : Int)) ∧ Own wr w.heap.size 5 v (bs ++ (beS s M).take k) ∧ Below w.heap.size w wr) (fun _ sh _ => (intOf sh + 8).toNat)
  case atStart => exact ⟨0, Nat.zero_le _, by simp, by simpa using hown2, hb2⟩
  case round =>
    obtain ⟨k, hk, rfl, hown, hbr⟩ := hrel
    have hbs := hbr.size
    by_cases hlt : k < s
    · obtain ⟨j, hj⟩ : ∃ j : Nat, 8 * ((s : Int) - 1) - 8 * (k : Int) = (j : Int) := ⟨(8 * ((s : Int) - 1) - 8 * (k : Int)).toNat, by omega⟩
      have hjb : (j : Int) ≤ 56 := by omega
      have hbyte : IntKind.u8.wrap (M / 2 ^ j) = byteS s M k := by
        unfold byteS; rw [IntKind.wrap_u8, show 8 * (s - 1 - k) = j by omega]
      have hj8 : (j : Int) - 8 = 8 * ((s : Int) - 1) - 8 * ((k + 1 : Nat) : Int) := by omega
      have htk := beS_take s M k hlt
      have hll : ((beS s M).take k).length ≤ 8 := by have := List.length_take_le k (beS s M); omega
      rw [hj]
      have BY := Lib.hid hbyte
      have J8 := Lib.hid hj8
      have TK := Lib.hid htk
      clear hj hbyte hj8 htk
      go_wp2_with (at_builtin; refine wpList_append_rd rfl (.tmp 39) (.tmp 44) 22 rfl w.heap.size 5 i0 Tryz.underlying22 hi hz0 hz1 hz2 _ _ rfl (hown.alloc _) _ _ 1 1 [IntKind.u8.wrap (M / 2 ^ j)] rfl (Rd.lit wr 5 [IntKind.u8.wrap (M / 2 ^ j)] (fun y hy => by simp at hy; subst hy; rw [IntKind.wrap_u8]; omega) _ rfl) (by rw [List.length_append, HL.out]; omega) w (hbr.alloc hbs _) (by simp; omega) ?_; intro v' w3 hown3 hb3 hgr3)
      go_roundw
      case rel => exact ⟨k + 1, by omega, by rw [← J8.out], by rw [TK.out, ← List.append_assoc, ← BY.out]; exact hown3, hb3⟩
      case measure => simp [intOf]; omega
    · obtain rfl : k = s := by omega
      have hfin : (beS k M).take k = beS k M := List.take_of_length_le (by rw [beS_len]; omega)
      rw [hfin] at hown
      have hneg : 8 * ((k : Int) - 1) - 8 * (k : Int) = -8 := by omega
      rw [hneg]
      clear hfin hneg
      go_wp2
      go_ret2
      exact ⟨_, rfl, by rw [PS.out]; exact hown, hbr⟩
end
end Go.Proofs.YtbejpafephofaaaGreat
