/-
  sent: Flight, Oldest, Add.
-/
import Derived.Test.YtpihgikcgkipaaaUf
import Derived.Deep.RegionLaw
import Derived.Shelf.RegionOpenPlain
import Derived.BigRegion
namespace Go.Proofs.Ytpihgikcgkipaaa
set_option linter.unusedVariables false
set_option linter.unusedSimpArgs false
open Go.RowKit
def sumS (l : PL) : Int := (l.map (·.s)).foldl (· + ·) 0
theorem foldl_add : ∀ (l : List Int) (a : Int), l.foldl (· + ·) a = a + l.foldl (· + ·) 0
  | [], a => by simp
  | x :: t, a => by
    rw [List.foldl_cons, List.foldl_cons, foldl_add t (a + x), foldl_add t (0 + x)]
    omega
theorem sumS_app (a b : PL) : sumS (a ++ b) = sumS a + sumS b := by
  unfold sumS
  rw [List.map_append, List.foldl_append, foldl_add]
theorem sumS_one (r : PK) : sumS [r] = r.s := by simp [sumS]
theorem sumS_bd : ∀ l : PL, (∀ r ∈ l, 0 ≤ r.s ∧ r.s ≤ 512) → 0 ≤ sumS l ∧ sumS l ≤ 512 * l.length
  | [], _ => by simp [sumS]
  | r :: t, h => by
    have h1 := sumS_bd t (fun r hr => h r (List.mem_cons_of_mem _ hr))
    have h2 := h r (List.mem_cons_self ..)
    rw [show r :: t = [r] ++ t from rfl, sumS_app, sumS_one]
    simp only [List.length_append, List.length_cons, List.length_nil]
    omega
section
variable {base p : Nat} {nx ak : Int} {hd : Bool} {v : Value} {l : PL} {w : World}
set_option maxRecDepth 100000 in
set_option maxHeartbeats 2000000 in
theorem sflight_any (hs : LV w base p nx ak hd v l) (hn : l.length ≤ 100000) (hb : ∀ r ∈ l, 0 ≤ r.s ∧ r.s ≤ 512) :
    Calls Try.prog 15 #[.pointer (some ⟨p, 0, none⟩)] w fun e w' => e = .returned (.int .i64 (sumS l)) ∧ Below w.heap.size w w' := by
  have HL := Lib.hid hs
  have HB := Lib.hid hb
  obtain ⟨A, c, rfl, hnc, hcm⟩ := ownG_shape hs.own
  have cv : w.cell? ⟨p, 3, none⟩ = some (.slice A l.length c) := hs.at_.cell 3
  clear hs hb
  obtain ⟨n, hln⟩ : ∃ n, l.length = n := ⟨_, rfl⟩
  have HN := Lib.hid hln
  rw [hln] at hnc cv hn HL
  clear hln
  go_enter Try.func15, Try.ntmps15
  go_wp2
  go_loopg [3, 11] n (fun kx s3 s11 wr => ∃ (i : Nat), s3 = .int .i64 (sumS (l.take i)) ∧ s11 = .int .i64 i ∧ i ≤ n ∧ n - i ≤ kx ∧ Below w.heap.size w wr)
  case atStart => exact ⟨0, by simp [sumS], rfl, Nat.zero_le _, by omega, Below.refl _ _⟩
  case round =>
    obtain ⟨i, rfl, rfl, hin, hkx, hB⟩ := hrel
    by_cases hlt : i < n
    · have hiz : (i : Int) < (n : Int) := by omega
      obtain ⟨r, hi⟩ : ∃ r, l[i]? = some r := ⟨_, List.getElem?_eq_getElem (by rw [HN.out]; exact hlt)⟩
      obtain ⟨g, c2, hgv, hbg, hglt, hpk⟩ := ownP_at (HL.out.below hB).own hi
      injection hgv with e1 e2 e3
      subst e1; subst e3
      clear e2
      have hsum : sumS (l.take (i + 1)) = sumS (l.take i) + r.s := by rw [List.take_add_one, hi, sumS_app]; simp [sumS_one]
      have hbd := sumS_bd (l.take i) (fun r hr => HB.out r (List.mem_of_mem_take hr))
      have hbl : (l.take i).length ≤ 100000 := by rw [List.length_take]; omega
      have hrb := HB.out r (List.mem_of_getElem? hi)
      have HSUM := Lib.hid hsum
      have HBX := Lib.hid (hB.alloc hB.size (.cells (pkC r).toArray 31))
      obtain ⟨S, hS⟩ : ∃ S, sumS (l.take i) = S := ⟨_, rfl⟩
      rw [hS] at hbd HSUM ⊢
      have hw : IntKind.i64.wrap (S + r.s) = S + r.s := by rw [IntKind.wrap_i64]; omega
      have cn := hpk.cn
      have ct := hpk.ct
      have cs := hpk.cs
      have ca := hpk.ca
      have cf := hpk.cf
      clear hpk hi hB hsum hS hbd hbl hrb HL HB
      obtain ⟨rn, rt, rs, ra, rA, rk, rc⟩ := r
      simp only at cn ct cs ca cf hw HSUM
      go_wp2
      go_roundg (n - (i + 1))
      case measure => omega
      case rel => exact ⟨i + 1, by rw [HSUM.out], by simp, by omega, by omega, HBX.out⟩
    · obtain rfl : i = n := by omega
      have ht : l.take i = l := List.take_of_length_le (by rw [HN.out]; omega)
      rw [ht]
      have H2 := Lib.hid hB
      clear hB ht
      go_wp2
      go_ret
      exact ⟨rfl, H2.out⟩
/-- The oldest packet, or none. -/
def OldIs (l : PL) (o : PK) (ok : Bool) : Prop := match l with | [] => o = PK.zero ∧ ok = false | r :: _ => o.core = r.core ∧ ok = true
set_option maxRecDepth 100000 in
set_option maxHeartbeats 2000000 in
theorem soldest_any (hs : LV w base p nx ak hd v l) (hn : l.length ≤ 100000) :
    Calls Try.prog 17 #[.pointer (some ⟨p, 0, none⟩)] w fun e w' => ∃ o ok, e = .returned (.tuple #[.agg (pkC o).toArray, .bool ok]) ∧ OldIs l o ok ∧ Below w.heap.size w w' := by
  have HZ := Lib.hid (At.new w 31 [.int .u64 0, .int .i64 0, .int .i64 0, .bool false, .slice none 0 0])
  have HBZ := Lib.hid ((Below.refl _ w).alloc (Nat.le_refl _) (.cells #[.int .u64 0, .int .i64 0, .int .i64 0, .bool false, .slice none 0 0] 31))
  have hL1 := hs.below ((Below.refl w.heap.size w).alloc (Nat.le_refl _) (.cells #[.int .u64 0, .int .i64 0, .int .i64 0, .bool false, .slice none 0 0] 31))
  cases l with
  | nil =>
    obtain ⟨A, c, rfl, _, _⟩ := ownG_shape hs.own
    have hc := hL1.at_.cell 3
    clear hs hL1
    go_enter Try.func17, Try.ntmps17
    go_wp2_with (first | ((with_reducible refine at_stp ?_); refine st_pat _ _ PK.zero (by rfl) (by rfl) HZ.out (by rfl) ?_; intro w9 hZ9 hK9) | fail)
    refine bodyPost_ret (results_cell_tmp 2 3 31 (by rfl) _ 31 _ _ _ (by rfl) (by rfl) hZ9 Try.underlying31 rfl pk_size) rfl ?_
    exact ⟨PK.zero, false, rfl, ⟨rfl, rfl⟩, hK9.below HBZ.out HBZ.out.size (fun j hj => by omega)⟩
  | cons r t =>
    obtain ⟨g, c, rfl, _, _, hpk⟩ := ownP_at hL1.own (i := 0) (r := r) rfl
    have hc := hL1.at_.cell 3
    have hnz : ¬ (((r :: t).length : Nat) : Int) = 0 := by simp only [List.length_cons]; omega
    have hz0 : (0 : Int) < (((r :: t).length : Nat) : Int) := by simp only [List.length_cons]; omega
    have hby := byItself_any base r _ (hL1.fr r (List.mem_cons_self ..))
    have HBY := Lib.hid hby
    have HPK := Lib.hid hpk
    clear hs hL1 hpk hby hn
    generalize (r :: t).length = n at *
    have hzn : ¬ n = 0 := by omega
    go_enter Try.func17, Try.ntmps17
    go_wp2_with (first | ((with_reducible refine at_ldp ?_); refine ld_pm g (0 * 5) r (by rfl) HPK.out ?_) | fail)
    refine HBY.out.mono ?_
    rintro e w1 ⟨A1, c1, rfl, hf1, hb1⟩
    have hZ1 := HZ.out.below hb1 (by simp)
    have hB1 := HBZ.out.trans (hb1.mono HBZ.out.size)
    have HZ1 := Lib.hid hZ1
    have HB1 := Lib.hid hB1
    clear hZ1 hB1 hf1 hb1
    go_wp2_with (first | ((with_reducible refine at_stp ?_); refine st_pat _ _ (r.put A1 c1) (by rfl) (by rfl) HZ1.out (by rfl) ?_; intro w9 hZ9 hK9) | fail)
    refine bodyPost_ret (results_cell_tmp 2 3 31 (by rfl) _ 31 _ _ _ (by rfl) (by rfl) hZ9 Try.underlying31 rfl pk_size) rfl ?_
    exact ⟨r.put A1 c1, true, rfl, ⟨rfl, rfl⟩, hK9.below HB1.out HB1.out.size (fun j hj => by omega)⟩
end
end Go.Proofs.Ytpihgikcgkipaaa
