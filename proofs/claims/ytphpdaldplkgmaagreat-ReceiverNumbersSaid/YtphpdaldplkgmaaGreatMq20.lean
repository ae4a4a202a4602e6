/-
  Numbers that are small, by the document's own answer (narthexref4.small).
-/
import Derived.Test.YtphpdaldplkgmaaGreatMq3
import Derived.Test.YtphpdaldplkgmaaGreatMq4
namespace Go.Proofs.YtphpdaldplkgmaaGreat
section
set_option linter.unusedVariables false
set_option linter.unusedSimpArgs false
open Go.RowKit
def smL (xs : List Int) : Bool := xs.all fun x => decide (x ≤ 4611686018427387903)
end
section
set_option linter.unusedVariables false
open Go.RowKit
theorem rsize_any (x : Int) (w : World) : Calls Tryz.prog 92 #[.int .u64 x] w fun e w' => e = .returned (.int .i64 (sizeS x)) ∧ w = w' := by
  have hfin : (sizeS x : Int) = if x < 64 then 1 else if x < 16384 then 2 else if x < 1073741824 then 4 else if x ≤ 4611686018427387903 then 8 else 0 := by
    unfold sizeS; (repeat' split) <;> rfl
  have H := Lib.hid hfin; clear hfin
  go_enter Tryz.func92, Tryz.ntmps92
  go_wp2
  all_goals
    go_ret
    exact ⟨ret_int (by rw [H.out]; (repeat' split) <;> omega), rfl⟩
/-- What the document's own table adds to the first byte. -/
def tblS (s : Nat) : Int := if s = 2 then 64 else if s = 4 then 128 else if s = 8 then 192 else 0
theorem tbl_first (x : Int) (h0 : 0 ≤ x) (h : x ≤ 4611686018427387903) (y : Int) (hy : y = IntKind.u8.wrap (x / 2 ^ (8 * (sizeS x - 1)))) :
    bits BinOp.or IntKind.u8 y (tblS (sizeS x)) = byteS (sizeS x) (putM x) 0 ∧ 0 ≤ y ∧ y < 64 := by
  subst hy
  have hf := put_first x h0 h
  rw [IntKind.wrap_u8]
  unfold tblS
  rcases size_cases x h0 h with ⟨a, b, c, d⟩ | ⟨a, b, c, d⟩ | ⟨a, b, c, d⟩ | ⟨a, b, c, d⟩ <;> rw [a] at hf ⊢ <;> rw [c] at hf ⊢ <;> rw [hf.1]
  · refine ⟨?_, by omega, hf.2⟩
    rw [if_neg (by omega), if_neg (by omega), if_neg (by omega), u8_or _ _ (by omega) (by omega) (by omega) (by omega)]; simp; omega
  · refine ⟨?_, by omega, hf.2⟩
    rw [if_pos (by omega), u8_or _ _ (by omega) (by omega) (by omega) (by omega), Nat.or_comm, nat_join 6 _ _ (by decide) (by omega)]; simp; omega
  · refine ⟨?_, by omega, hf.2⟩
    rw [if_neg (by omega), if_pos (by omega), u8_or _ _ (by omega) (by omega) (by omega) (by omega), Nat.or_comm, nat_join 6 _ _ (by decide) (by omega)]; simp; omega
  · refine ⟨?_, by omega, hf.2⟩
    rw [if_neg (by omega), if_neg (by omega), if_pos (by omega), u8_or _ _ (by omega) (by omega) (by omega) (by omega), Nat.or_comm, nat_join 6 _ _ (by decide) (by omega)]; simp; omega
set_option maxRecDepth 100000 in
set_option maxHeartbeats 2000000 in
theorem rput_any (A : Option Addr) (n c : Nat) (bs : List Int) (x : Int) (w : World) (hr : Rd w w.heap.size A n bs) (hc : n ≤ 140737488355000) (h0 : 0 ≤ x) (h1 : x ≤ 4611686018427387903) :
    Calls Tryz.prog 79 #[.slice A n c, .int .u64 x] w fun e w' => ∃ v, e = .returned v ∧
      Own w' w.heap.size 5 v (bs ++ putS x) ∧ Below w.heap.size w w' := by
  obtain ⟨i0, hi, hz0, hz1, hz2⟩ := info_parts u8_info
  have hb0 := Below.refl w.heap.size w
  have hps : putS x = beS (sizeS x) (putM x) := rfl
  have hs4 : sizeS x = 1 ∨ sizeS x = 2 ∨ sizeS x = 4 ∨ sizeS x = 8 := by
    rcases size_cases x h0 h1 with ⟨a, _⟩ | ⟨a, _⟩ | ⟨a, _⟩ | ⟨a, _⟩ <;> simp [a]
  have hs8 := size_le x
  have hs1 := size_pos x h1
  have htf := tbl_first x h0 h1 _ rfl
  have hlat := put_later x h0 h1
  obtain ⟨s, hs⟩ : ∃ s, sizeS x = s := ⟨_, rfl⟩
  obtain ⟨M, hMM⟩ : ∃ M, putM x = M := ⟨_, rfl⟩
  have S := Lib.hid hs
  rw [hs] at hps hs8 hs1 htf hlat hs4
  rw [hMM] at hps htf hlat
  clear hs hMM
  have PS := Lib.hid hps
  have LAT := Lib.hid hlat
  have TF := Lib.hid htf
  have S4 := Lib.hid hs4
  have HL := Lib.hid hr.1
  have hby := hr.2.1
  clear hps hlat htf hs4
  go_enter Tryz.func79, Tryz.ntmps79
  go_wp2_with (first
    | (go_at_call 92; refine (rsize_any _ _).mono ?_; rintro e w' ⟨rfl, rfl⟩; rw [S.out])
    | (at_builtin; refine wpList_append_rd rfl (.tmp 11) (.tmp 12) 22 rfl w.heap.size 5 i0 Tryz.underlying22 hi hz0 hz1 hz2 _ [] rfl (Own.of_block (n := 0) (cap := 0) Byt.nil rfl (heap_alloc_new w _) (Nat.le_refl _) (Nat.le_refl _) (Nat.zero_le _) rfl rfl) _ A n c bs rfl (hr.alloc (Nat.le_refl _) _) (by simp; omega) w (hb0.alloc (Nat.le_refl _) _) (by simp) ?_; intro v2 w2 hown2 hb2 hgr2))
  clear hr hb0 hgr2
  go_loopw [6, 7] (fun v i wr => ∃ k : Nat, k ≤ s ∧ i = .int .i64 k ∧ Own wr w.heap.size 5 v (bs ++ (beS s M).take k) ∧ Below w.heap.size w wr) (fun _ i _ => s - (intOf i).toNat)
  case atStart => exact ⟨0, Nat.zero_le _, rfl, by simpa using hown2, hb2⟩
  case round =>
    obtain ⟨k, hk, rfl, hown, hbr⟩ := hrel
    clear hown2 hb2
    have hbs := hbr.size
    by_cases hlt : k < s
    · have htk := beS_take s M k hlt
      have hll : ((beS s M).take k).length ≤ 8 := by have := List.length_take_le k (beS s M); omega
      have TK := Lib.hid htk; clear htk
      by_cases hk0 : k = 0
      · subst hk0
        rcases S4.out with rfl | rfl | rfl | rfl
        all_goals
          go_wp2_with (at_builtin; go_loud (refine wpList_append_rd rfl (.tmp 36) (.tmp 38) 22 rfl w.heap.size 5 i0 Tryz.underlying22 hi hz0 hz1 hz2 _ _ rfl ((hown.alloc _).alloc _) _ _ 1 1 [_] rfl (Rd.byte _ 5 _ (by simp) _ (u8_bits_bd _ _ _)) (by rw [List.length_append, HL.out]; omega) w ((hbr.alloc hbs _).alloc (by simp; omega) _) (by simp; omega) ?_); intro v' w3 hown3 hb3 hgr3)
          go_roundw
          case rel => exact ⟨1, by omega, by first | rfl | omega, hown3.cast (by rw [show List.take 1 (beS _ M) = List.take (0 + 1) (beS _ M) from rfl, TK.out, ← TF.out.1, IntKind.wrap_u8]; first | (simp [tblS]; done) | (simp [tblS]; rw [show x / 72057594037927936 % 256 = x / 72057594037927936 by omega]))⟩
          case measure => simp [intOf]
      · have hkz : ((k : Int) == 0) = false := by simp; omega
        have hbyte : IntKind.u8.wrap (x / 2 ^ (8 * (s - 1 - k))) = byteS s M k := by
          rw [LAT.out k (by omega) hlt, IntKind.wrap_u8]
        have BY := Lib.hid hbyte; clear hbyte
        go_wp2_with (at_builtin; go_loud (refine wpList_append_rd rfl (.tmp 36) (.tmp 38) 22 rfl w.heap.size 5 i0 Tryz.underlying22 hi hz0 hz1 hz2 _ _ rfl (hown.alloc _) _ _ 1 1 [_] rfl (Rd.byte _ 5 _ (by simp) _ (by first | exact u8_wrap_bd _ | omega)) (by rw [List.length_append, HL.out]; omega) w (hbr.alloc hbs _) (by simp; omega) ?_); intro v' w3 hown3 hb3 hgr3)
        go_roundw
        case rel => exact ⟨k + 1, by omega, by go_num, hown3.cast (by rw [TK.out, ← BY.out, IntKind.wrap_u8]; simp), hb3⟩
        case measure => simp [intOf]; omega
    · obtain rfl : k = s := by omega
      have hfin : (beS k M).take k = beS k M := List.take_of_length_le (by rw [beS_len]; omega)
      rw [hfin] at hown
      clear hfin
      go_wp2
      go_ret
      exact ⟨_, rfl, by rw [PS.out]; exact hown, hbr⟩
end
section
set_option linter.unusedVariables false
set_option linter.unusedSimpArgs false
open Go.RowKit
def RowPost (base : Nat) (bs : List Int) (w : World) (e : Ending) (w' : World) : Prop := ∃ v, e = .returned v ∧ Own w' base 5 v bs ∧ Below w.heap.size w w'
/-- What the loop keeps. -/
def VsAt (w : World) (base m : Nat) (bs xs : List Int) (k : Nat) (v : Value) (wr : World) : Prop :=
  Below w.heap.size w wr ∧ ∃ A m' c', v = .slice A m' c' ∧ Rd wr wr.heap.size A m' (bs ++ putL (xs.take k)) ∧ m' ≤ m + 8 * k ∧ (1 ≤ k → Own wr base 5 v (bs ++ putL (xs.take k)))
set_option maxRecDepth 100000 in
set_option maxHeartbeats 1000000 in
theorem rvs_any (P : Nat → Prop) (A : Option Addr) (m c : Nat) (bs : List Int) (A' : Option Addr) (n c' : Nat) (xs : List Int) (w : World) (base : Nat) (hr : Rd w w.heap.size A m bs) (hm : m ≤ 100000000000) (hu : UsP w P A' n xs) (hn : n ≤ 100) (hn1 : 1 ≤ n) (hnc : n ≤ c') (hx : smL xs = true) (hbase : base ≤ w.heap.size) :
    Calls Tryz.prog 56 #[.slice A m c, .slice A' n c'] w (RowPost base (bs ++ putL xs) w) := by
  obtain ⟨hl, hb, hcell⟩ := hu
  obtain ⟨b, off, rfl, hbl, _, hc⟩ := hcell (by omega)
  have HL := Lib.hid hl
  have HC := Lib.hid hc
  have HX := Lib.hid hx
  have H0 : Hid (VsAt w base m bs xs 0 (.slice A m c) w) := Lib.hid ⟨Below.refl _ _, A, m, c, rfl, by simpa [putL] using hr, by omega, fun h => by omega⟩
  clear hl hc hcell hr hx
  go_enter Tryz.func56, Tryz.ntmps56
  go_wp2_with fail
  go_loopw [0, 5] (fun v i wr => ∃ k : Nat, k ≤ n ∧ i = .int .i64 k ∧ Hid (VsAt w base m bs xs k v wr)) (fun _ i _ => n - (intOf i).toNat)
  case atStart => exact ⟨0, Nat.zero_le _, rfl, H0⟩
  case round =>
    obtain ⟨k, hk, rfl, hst⟩ := hrel
    obtain ⟨wo, rfl⟩ : ∃ wo : World, wo = wr := ⟨_, rfl⟩
    obtain ⟨hB, A1, m1, c1, rfl, hR, hm1, hO⟩ := hst.out
    clear hst H0
    by_cases hlt : k < n
    · obtain ⟨x, hx⟩ : ∃ x, xs[k]? = some x := ⟨_, List.getElem?_eq_getElem (by rw [HL.out]; exact hlt)⟩
      have ck : wo.cell? ⟨b, off + k, none⟩ = some (.int .u64 x) := (hB.cell (p := ⟨b, _, none⟩) hbl).trans (HC.out k x hx)
      have hxm := List.mem_of_getElem? hx
      have hx0 := (hb x hxm).1
      have hx1 : x ≤ 4611686018427387903 := by
        have := HX.out
        unfold smL at this
        rw [List.all_eq_true] at this
        simpa using this x hxm
      have HT := Lib.hid (putL_take xs k x hx)
      have hs := putS_len x
      have hz := size_le x
      have hnI : (k : Int) < n := by omega
      have HR := Lib.hid hR
      clear hx hxm hO hR
      go_wp2_with fail
      refine (rput_any A1 m1 c1 _ x wo HR.out (by omega) hx0 hx1).mono ?_
      rintro e w2 ⟨v2, rfl, hO2, hB2⟩
      have hlen : (bs ++ putL (xs.take k) ++ putS x).length = m1 + (putS x).length := by rw [List.length_append, HR.out.1]
      have hB3 := hB.trans (hB2.mono hB.size)
      have hO3 := hO2.base_ (base' := base) (by have := hB.size; omega)
      have hF : Hid (VsAt w base m bs xs (k + 1) v2 w2) := Lib.hid (by
        obtain ⟨A2, c2, hv2, _, _, hR2⟩ := hO2.open_n _ hlen
        refine ⟨hB3, A2, _, c2, hv2, ?_, by omega, fun _ => ?_⟩
        · rw [HT.out, ← List.append_assoc]; exact hR2
        · rw [HT.out, ← List.append_assoc]; exact hO3)
      clear hO3 hB3 hO2 hB2 hlen HT
      go_wp2_with fail
      go_roundw
      case rel => exact ⟨k + 1, by omega, by go_num, hF⟩
      case measure => simp [intOf]; omega
    · obtain rfl : k = n := by omega
      have hO1 := hO (by omega)
      have hF : Hid (Own wo base 5 (.slice A1 m1 c1) (bs ++ putL xs)) := Lib.hid (by
        rw [List.take_of_length_le (by rw [HL.out]; exact Nat.le_refl _)] at hO1; exact hO1)
      clear hO hO1 hR
      go_wp2_with fail
      go_ret
      exact ⟨_, rfl, hF.out, hB⟩
end
end Go.Proofs.YtphpdaldplkgmaaGreat
