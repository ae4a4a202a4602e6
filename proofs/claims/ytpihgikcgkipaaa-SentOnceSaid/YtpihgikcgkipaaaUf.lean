/-
  sent.setOf; what a ledger tells of itself: Len, Next, Acked, Last, Flight, Oldest, Clear; New.
-/
import Derived.Test.YtpihgikcgkipaaaUe
namespace Go.Proofs.Ytpihgikcgkipaaa
set_option linter.unusedVariables false
set_option linter.unusedSimpArgs false
open Go.RowKit
set_option maxRecDepth 100000 in
set_option maxHeartbeats 4000000 in
theorem setOf_any (P : Nat → Prop) (A : Option Addr) (n c : Nat) (rs : RL) (w : World) (hr : RnP w P A n rs) (hnc : n ≤ c) (hcm : c ≤ maxLen) (hg : Gd rs) (hn : n ≤ 400000) :
    Calls Try.prog 28 #[.slice A n c] w fun e w' => ∃ sp vv, e = .returned (.pointer (some ⟨sp, 0, none⟩)) ∧ SetV w' w.heap.size sp (max (n : Int) 1) vv rs ∧ Below w.heap.size w w' := by
  have HR := Lib.hid hr
  have HLN := Lib.hid hr.len
  have HG := Lib.hid hg
  unfold maxLen at hcm
  clear hr hg
  have HN := Lib.hid (new_any (n : Int) w (by omega))
  obtain ⟨m, hm⟩ : ∃ m : Int, max (n : Int) 1 = m := ⟨_, rfl⟩
  have hm1 : 1 ≤ m ∧ m < 9223372036854775808 ∧ (n : Int) ≤ m := by omega
  rw [hm] at HN ⊢
  have HM := Lib.hid hm1
  clear hm hm1
  go_enter Try.func28, Try.ntmps28
  go_wp2_with (go_at_call 42; refine HN.out.mono ?_; rintro e w1 ⟨rfl, hS1, hB1⟩)
  have H1 := Lib.hid (And.intro hS1 hB1)
  clear hS1 hB1
  obtain ⟨sp, hsp⟩ : ∃ x, w.heap.size = x := ⟨_, rfl⟩
  rw [hsp] at H1 ⊢
  have HSP := Lib.hid hsp
  clear hsp
  go_loopg [11] n (fun kx s11 wr => ∃ (i : Nat) (vv : Value), s11 = .int .i64 i ∧ i ≤ n ∧ n - i ≤ kx ∧ Below sp w wr ∧ SetV wr sp sp m vv (rs.take i))
  case atStart => exact ⟨0, _, rfl, Nat.zero_le _, by omega, H1.out.2, H1.out.1⟩
  case round =>
    obtain ⟨i, vv, rfl, hin, hkx, hB, hS⟩ := hrel
    by_cases hlt : i < n
    · have hiz : (i : Int) < (n : Int) := by omega
      obtain ⟨r, hi⟩ : ∃ r, rs[i]? = some r := ⟨_, List.getElem?_eq_getElem (by rw [HLN.out]; exact hlt)⟩
      obtain ⟨b, off, rfl, hb, hP, hc⟩ := (HR.out.below (by rw [HSP.out]; exact hB)).at_ (by omega)
      obtain ⟨x, y⟩ := r
      have h0 := (hc i _ hi).1
      have h1 := (hc i _ hi).2
      simp only at h0 h1
      have hok := HG.out.1 _ (List.mem_of_getElem? hi)
      have hbx := hB.alloc (by have := hB.size; have := HSP.out; omega) (.cells #[.int .u64 x, .int .u64 y] 38)
      have hSx := hS.below ((Below.refl wr.heap.size wr).alloc (Nat.le_refl _) (.cells #[.int .u64 x, .int .u64 y] 38))
      have hta : ∀ r ∈ rs.take i, r.2 < x := fun r hr => by
        obtain ⟨j, hj⟩ := List.mem_iff_getElem?.1 hr
        rw [List.getElem?_take] at hj
        split at hj
        · rename_i hji
          have := List.pairwise_iff_getElem.1 HG.out.2 j i (List.getElem?_eq_some_iff.1 hj).1 (List.getElem?_eq_some_iff.1 hi).1 hji
          rw [(List.getElem?_eq_some_iff.1 hj).2, (List.getElem?_eq_some_iff.1 hi).2] at this
          exact this
        · cases hj
      have hlen : (rs.take i).length = i := by rw [List.length_take, HLN.out]; omega
      have hadd := add_last (x := (x, y)) (most := m) (HG.out.take i) hta hok.2.1 hok.2.2 (by have := HM.out.2.2; omega)
      have hsz : sp ≤ (wr.alloc (.cells #[.int .u64 x, .int .u64 y] 38)).heap.size := by have := hbx.size; have := HSP.out; omega
      have hA := add_any' sp sp m vv (rs.take i) _ hSx (by omega) (HG.out.take i) hsz ⟨HM.out.1, HM.out.2.1⟩ x y hok.1
      simp only at hadd
      rw [hadd, show rs.take i ++ [(x, y)] = rs.take (i + 1) by rw [List.take_add_one, hi]; rfl] at hA
      have HA := Lib.hid hA
      have HSX := Lib.hid hSx
      have HBX := Lib.hid hbx
      clear hA hSx hbx hadd hta hc hi hB hS hok hlen hsz
      go_wp2_with (go_at_call 43; refine HA.out.mono ?_; rintro e w2 ⟨rfl, v2, hS2, hk2, hv2⟩)
      have hb2 : Below sp w w2 := hk2.below HBX.out (by have := HBX.out.size; have := HSP.out; omega) (fun j hj => by
        rcases hj with hj | hj
        · omega
        · exact (HSX.out.own.lt j hj).1)
      have H2 := Lib.hid (And.intro hb2 hS2)
      clear hb2 hS2 hk2 hv2
      go_wp2_with fail
      go_roundg (n - (i + 1))
      case measure => omega
      case rel => exact ⟨i + 1, v2, by simp, by omega, by omega, H2.out.1, H2.out.2⟩
    · obtain rfl : i = n := by omega
      have ht : rs.take i = rs := List.take_of_length_le (by rw [HLN.out]; omega)
      rw [ht] at hS
      have H2 := Lib.hid (And.intro hB hS)
      clear hB hS ht
      go_wp2
      go_ret
      exact ⟨sp, vv, rfl, by rw [HSP.out]; exact H2.out.2, by rw [HSP.out]; exact H2.out.1⟩
theorem snew_any (w : World) : Calls Try.prog 7 #[] w fun e w' => e = .returned (.pointer (some ⟨w.heap.size, 0, none⟩)) ∧ LV w' w.heap.size w.heap.size 0 0 false (.slice none 0 0) [] ∧ Below w.heap.size w w' := by
  have hA := At.new w 61 [.int .u64 0, .int .u64 0, .bool false, .slice none 0 0]
  have HA : Hid (LV (w.alloc (.cells #[.int .u64 0, .int .u64 0, .bool false, .slice none 0 0] 61)) w.heap.size w.heap.size 0 0 false (.slice none 0 0) []) := Lib.hid ⟨hA, ownP_nil _ _, fun r hr => (by cases hr), Nat.le_refl _⟩
  have HB := Lib.hid ((Below.refl _ w).alloc (Nat.le_refl _) (.cells #[.int .u64 0, .int .u64 0, .bool false, .slice none 0 0] 61))
  clear hA
  go_enter Try.func7, Try.ntmps7
  go_wp2
  go_ret
  exact ⟨rfl, HA.out, HB.out⟩
section
variable {base p : Nat} {nx ak : Int} {hd : Bool} {v : Value} {l : PL} {w : World}
theorem slen_any (hs : LV w base p nx ak hd v l) : Calls Try.prog 14 #[.pointer (some ⟨p, 0, none⟩)] w fun e w' => e = .returned (.int .i64 (l.length : Nat)) ∧ w' = w := by
  obtain ⟨A, c, rfl, _, _⟩ := ownG_shape hs.own
  have hc := hs.at_.cell 3
  clear hs
  generalize l.length = n at *
  go_enter Try.func14, Try.ntmps14
  go_wp2
  go_ret
  exact ⟨rfl, rfl⟩
theorem snext_any (hs : LV w base p nx ak hd v l) : Calls Try.prog 25 #[.pointer (some ⟨p, 0, none⟩)] w fun e w' => e = .returned (.int .u64 nx) ∧ w' = w := by
  have hc := hs.at_.cell 0
  clear hs
  go_enter Try.func25, Try.ntmps25
  go_wp2
  go_ret
  exact ⟨rfl, rfl⟩
theorem sacked_any (hs : LV w base p nx ak hd v l) : Calls Try.prog 39 #[.pointer (some ⟨p, 0, none⟩)] w fun e w' => e = .returned (.tuple #[.int .u64 ak, .bool hd]) ∧ Below w.heap.size w w' := by
  have hc := hs.at_.cell 1
  have hc2 := hs.at_.cell 2
  clear hs
  go_enter Try.func39, Try.ntmps39
  go_wp2
  go_quiet (fail)
  go_wp2
  go_ret2
  exact ⟨rfl, belowN (Below.refl _ _) _⟩
theorem sclear_any (hs : LV w base p nx ak hd v l) : Calls Try.prog 13 #[.pointer (some ⟨p, 0, none⟩)] w fun e w' => e = .returned v ∧ LV w' base p nx ak hd (.slice none 0 0) [] ∧ OwnP w' base v l ∧ Kept (· = p) w w' := by
  have hc := hs.at_.cell 3
  have hf := hs.at_.frozen 3
  have hk : Kept (· = p) w (w.setCell ⟨p, 3, none⟩ (.slice none 0 0)) := (Kept.refl _ _).setAt _ _
  have hown := ownG_kept hs.own hk (fun j hj e => hs.ne (by rw [hj, e]))
  have hl : LV (w.setCell ⟨p, 3, none⟩ (.slice none 0 0)) base p nx ak hd (.slice none 0 0) [] := ⟨hs.at_.set 3 _, ownP_nil _ _, fun r hr => (by cases hr), hs.bp⟩
  have H := Lib.hid (And.intro hl (And.intro hown hk))
  clear hs hk hown hl
  go_enter Try.func13, Try.ntmps13
  go_wp2
  go_ret
  exact ⟨rfl, H.out⟩
def lastT (l : PL) : Array Value := match l.getLast? with | none => #[.int .i64 0, .bool false] | some r => #[.int .i64 r.t, .bool true]
set_option maxRecDepth 100000 in
theorem slast_any (hs : LV w base p nx ak hd v l) (hn : l.length ≤ 100000) : Calls Try.prog 18 #[.pointer (some ⟨p, 0, none⟩)] w fun e w' => e = .returned (.tuple (lastT l)) ∧ Below w.heap.size w w' := by
  unfold lastT
  cases hl : l.getLast? with
  | none =>
    obtain rfl := List.getLast?_eq_none_iff.1 hl
    obtain ⟨A, c, rfl, _, _⟩ := ownG_shape hs.own
    have hc := hs.at_.cell 3
    clear hs
    go_enter Try.func18, Try.ntmps18
    go_wp2
    go_ret2
    exact ⟨rfl, Below.refl _ _⟩
  | some r =>
    have hi : l[l.length - 1]? = some r := by rw [List.getLast?_eq_getElem?] at hl; exact hl
    have hpos : 0 < l.length := by have := (List.getElem?_eq_some_iff.1 hi).1; omega
    obtain ⟨g, c, rfl, _, _, hpk⟩ := ownP_at hs.own hi
    have hc := hs.at_.cell 3
    have ct := hpk.ct
    clear hs hpk hi hl
    generalize l.length = n at *
    have hz : (0 : Int) < (n : Int) := by omega
    have hz1 : ¬ (n : Int) = 0 := by omega
    have hzn : ¬ n = 0 := by omega
    have hw : IntKind.i64.wrap ((n : Int) - 1) = ((n - 1 : Nat) : Int) := by rw [IntKind.wrap_i64]; omega
    have hj : ((n - 1 : Nat) : Int) < (n : Int) := by omega
    go_enter Try.func18, Try.ntmps18
    go_wp2
    go_quiet (fail)
    go_wp2
    go_ret2
    exact ⟨rfl, belowN (Below.refl _ _) _⟩
end
end Go.Proofs.Ytpihgikcgkipaaa
