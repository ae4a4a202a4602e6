/-
  The document's ledger: Oldest, Last, Flight, has.
-/
import Derived.Test.YtpihgikcgkipaaaUj
namespace Go.Proofs.Ytpihgikcgkipaaa
set_option linter.unusedVariables false
set_option linter.unusedSimpArgs false
open Go.RowKit
/-- The document's ledger behind a pointer. -/
structure RV (w : World) (base q : Nat) (nx ak : Int) (hd : Bool) (v : Value) (l : PL) : Prop where
  at_ : At w q 28 [v, .int .u64 nx, .int .u64 ak, .bool hd]
  own : OwnP w base v l
  bq : base ≤ q
section
variable {w w' : World} {base q : Nat} {nx ak : Int} {hd : Bool} {v : Value} {l : PL}
theorem RV.ne (h : RV w base q nx ak hd v l) : v.ownBlock ≠ some q := fun e => by
  obtain ⟨cur, hA⟩ := ownG_type h.own q e
  exact absurd (hA.type_eq h.at_) (by decide)
theorem RV.kept {S : Nat → Prop} (h : RV w base q nx ak hd v l) (k : Kept S w w') (hp : ¬ S q) (hv : ∀ j, v.ownBlock = some j → ¬ S j) : RV w' base q nx ak hd v l :=
  ⟨h.at_.kept k hp, ownG_kept h.own k hv, h.bq⟩
theorem RV.below (h : RV w base q nx ak hd v l) (k : Below w.heap.size w w') : RV w' base q nx ak hd v l := h.kept (Kept.of_below k (fun _ => False)) (fun h => h) (fun _ _ h => h)
theorem RV.drewN (h : RV w base q nx ak hd v l) (n : Nat) : RV (w.drewN n) base q nx ak hd v l := h.below ⟨rfl, rfl, rfl, Nat.le_refl _, fun _ _ => rfl⟩
theorem RV.noFr2 (h : RV w base q nx ak hd v l) : NoFr w (fun j => j = q ∨ v.ownBlock = some j) := NoFr.of_type fun j hj => by
  rcases hj with hj | hj
  · subst hj; exact ⟨_, _, h.at_, by decide⟩
  · obtain ⟨cur, hA⟩ := ownG_type h.own j hj
    exact ⟨_, _, hA, by decide⟩
set_option maxRecDepth 100000 in
set_option maxHeartbeats 2000000 in
theorem rflight_any (hs : RV w base q nx ak hd v l) (hn : l.length ≤ 100000) (hb : ∀ r ∈ l, 0 ≤ r.s ∧ r.s ≤ 512) (ha : ∀ r ∈ l, r.a = true) :
    Calls Try.prog 40 #[.pointer (some ⟨q, 0, none⟩)] w fun e w' => e = .returned (.int .i64 (sumS l)) ∧ w' = w := by
  have HL := Lib.hid hs
  have HB := Lib.hid hb
  have HA := Lib.hid ha
  obtain ⟨A, c, rfl, hnc, hcm⟩ := ownG_shape hs.own
  have cv : w.cell? ⟨q, 0, none⟩ = some (.slice A l.length c) := hs.at_.cell 0
  clear hs hb ha
  obtain ⟨n, hln⟩ : ∃ n, l.length = n := ⟨_, rfl⟩
  have HN := Lib.hid hln
  rw [hln] at hnc cv hn HL
  clear hln
  go_enter Try.func40, Try.ntmps40
  go_wp2
  go_loopg [3, 4] n (fun kx s3 s4 wr => ∃ (i : Nat), s3 = .int .i64 (sumS (l.take i)) ∧ s4 = .int .i64 i ∧ i ≤ n ∧ n - i ≤ kx ∧ wr = w)
  case atStart => exact ⟨0, by simp [sumS], rfl, Nat.zero_le _, by omega, rfl⟩
  case round =>
    obtain ⟨i, rfl, rfl, hin, hkx, rfl⟩ := hrel
    by_cases hlt : i < n
    · have hiz : (i : Int) < (n : Int) := by omega
      obtain ⟨r, hi⟩ : ∃ r, l[i]? = some r := ⟨_, List.getElem?_eq_getElem (by rw [HN.out]; exact hlt)⟩
      obtain ⟨g, c2, hgv, hbg, hglt, hpk⟩ := ownP_at HL.out.own hi
      injection hgv with e1 e2 e3
      subst e1; subst e3
      clear e2
      have hsum : sumS (l.take (i + 1)) = sumS (l.take i) + r.s := by rw [List.take_add_one, hi, sumS_app]; simp [sumS_one]
      have hbd := sumS_bd (l.take i) (fun r hr => HB.out r (List.mem_of_mem_take hr))
      have hbl : (l.take i).length ≤ 100000 := by rw [List.length_take]; omega
      have hrb := HB.out r (List.mem_of_getElem? hi)
      have hra := HA.out r (List.mem_of_getElem? hi)
      have HSUM := Lib.hid hsum
      obtain ⟨S, hS⟩ : ∃ S, sumS (l.take i) = S := ⟨_, rfl⟩
      rw [hS] at hbd HSUM ⊢
      have hw : IntKind.i64.wrap (S + r.s) = S + r.s := by rw [IntKind.wrap_i64]; omega
      have cs := hpk.cs
      have ca := hpk.ca
      rw [hra] at ca
      clear hpk hi hsum hS hbd hbl hrb hra HL HB HA
      go_wp2
      go_roundg (n - (i + 1))
      case measure => omega
      case rel => exact ⟨i + 1, by rw [HSUM.out], by simp, by omega, by omega, rfl⟩
    · obtain rfl : i = n := by omega
      have ht : l.take i = l := List.take_of_length_le (by rw [HN.out]; omega)
      rw [ht]
      have hiz : ¬ (i : Int) < (i : Int) := by omega
      clear ht
      go_wp2
      go_ret
      exact ⟨rfl, rfl⟩
set_option maxRecDepth 100000 in
set_option maxHeartbeats 2000000 in
theorem roldest_any (hs : RV w base q nx ak hd v l) (hn : l.length ≤ 100000) (ha : ∀ r ∈ l, r.a = true) :
    Calls Try.prog 37 #[.pointer (some ⟨q, 0, none⟩)] w fun e w' => ∃ o ok, e = .returned (.tuple #[.agg (pkC o).toArray, .bool ok]) ∧ OldIs l o ok ∧ Below w.heap.size w w' := by
  have HZ := Lib.hid (At.new w 31 [.int .u64 0, .int .i64 0, .int .i64 0, .bool false, .slice none 0 0])
  have HBZ := Lib.hid ((Below.refl _ w).alloc (Nat.le_refl _) (.cells #[.int .u64 0, .int .i64 0, .int .i64 0, .bool false, .slice none 0 0] 31))
  have hL1 := hs.below ((Below.refl w.heap.size w).alloc (Nat.le_refl _) (.cells #[.int .u64 0, .int .i64 0, .int .i64 0, .bool false, .slice none 0 0] 31))
  cases l with
  | nil =>
    obtain ⟨A, c, rfl, _, _⟩ := ownG_shape hs.own
    have hc := hL1.at_.cell 0
    clear hs hL1
    go_enter Try.func37, Try.ntmps37
    go_wp2
    go_loopg [4] 1 (fun kx s4 wr => s4 = .int .i64 0 ∧ wr = w.alloc (.cells #[.int .u64 0, .int .i64 0, .int .i64 0, .bool false, .slice none 0 0] 31))
    case atStart => exact ⟨rfl, rfl⟩
    case round =>
      obtain ⟨rfl, rfl⟩ := hrel
      go_wp2_with (first | ((with_reducible refine at_stp ?_); refine st_pat _ _ PK.zero (by rfl) (by rfl) HZ.out (by rfl) ?_; intro w9 hZ9 hK9) | fail)
      refine bodyPost_ret (results_cell_tmp 2 3 31 (by rfl) _ 31 _ _ _ (by rfl) (by rfl) hZ9 Try.underlying31 rfl pk_size) rfl ?_
      exact ⟨PK.zero, false, rfl, ⟨rfl, rfl⟩, hK9.below HBZ.out HBZ.out.size (fun j hj => by omega)⟩
  | cons r t =>
    obtain ⟨g, c, rfl, _, _, hpk⟩ := ownP_at hL1.own (i := 0) (r := r) rfl
    have hc := hL1.at_.cell 0
    have hnz : (0 : Int) < (((r :: t).length : Nat) : Int) := by simp only [List.length_cons]; omega
    have ca := hpk.ca
    rw [ha r (List.mem_cons_self ..)] at ca
    have HPK := Lib.hid hpk
    clear hs hL1 hpk hn ha
    generalize (r :: t).length = n at *
    simp only [Nat.zero_mul] at ca
    go_enter Try.func37, Try.ntmps37
    go_wp2
    go_loopg [4] 1 (fun kx s4 wr => s4 = .int .i64 0 ∧ wr = w.alloc (.cells #[.int .u64 0, .int .i64 0, .int .i64 0, .bool false, .slice none 0 0] 31))
    case atStart => exact ⟨rfl, rfl⟩
    case round =>
      obtain ⟨rfl, rfl⟩ := hrel
      go_wp2_with (first | ((with_reducible refine at_ldp ?_); refine ld_pm g (0 * 5) r (by rfl) HPK.out ?_) | ((with_reducible refine at_stp ?_); refine st_pat _ _ r (by rfl) (by rfl) HZ.out (by rfl) ?_; intro w9 hZ9 hK9) | fail)
      refine bodyPost_ret (results_cell_tmp 2 3 31 (by rfl) _ 31 _ _ _ (by rfl) (by rfl) hZ9 Try.underlying31 rfl pk_size) rfl ?_
      exact ⟨r, true, rfl, ⟨rfl, rfl⟩, hK9.below HBZ.out HBZ.out.size (fun j hj => by omega)⟩
set_option maxRecDepth 100000 in
set_option maxHeartbeats 2000000 in
theorem rlast_any (hs : RV w base q nx ak hd v l) (hn : l.length ≤ 100000) (ha : ∀ r ∈ l, r.a = true) :
    Calls Try.prog 38 #[.pointer (some ⟨q, 0, none⟩)] w fun e w' => e = .returned (.tuple (lastT l)) ∧ Below w.heap.size w w' := by
  unfold lastT
  cases hl : l.getLast? with
  | none =>
    obtain rfl := List.getLast?_eq_none_iff.1 hl
    obtain ⟨A, c, rfl, _, _⟩ := ownG_shape hs.own
    have hc := hs.at_.cell 0
    clear hs
    go_enter Try.func38, Try.ntmps38
    go_wp2
    go_loopg [4] 1 (fun kx s4 wr => s4 = .int .i64 (-1) ∧ wr = w)
    case atStart => exact ⟨rfl, rfl⟩
    case round =>
      obtain ⟨rfl, rfl⟩ := hrel
      go_wp2
      go_ret2
      exact ⟨rfl, Below.refl _ _⟩
  | some r =>
    have hi : l[l.length - 1]? = some r := by rw [List.getLast?_eq_getElem?] at hl; exact hl
    have hpos : 0 < l.length := by have := (List.getElem?_eq_some_iff.1 hi).1; omega
    obtain ⟨g, c, rfl, _, _, hpk⟩ := ownP_at hs.own hi
    have hc := hs.at_.cell 0
    have ct := hpk.ct
    have ca := hpk.ca
    rw [ha r (List.mem_of_getElem? hi)] at ca
    clear hs hpk hi hl ha
    generalize l.length = n at *
    have hw : IntKind.i64.wrap ((n : Int) - 1) = ((n - 1 : Nat) : Int) := by rw [IntKind.wrap_i64]; omega
    have hj : ((n - 1 : Nat) : Int) < (n : Int) := by omega
    obtain ⟨m, hm⟩ : ∃ m, n - 1 = m := ⟨_, rfl⟩
    rw [hm] at hw hj ct ca
    have hm0 : (0 : Int) ≤ (m : Int) := by omega
    clear hm
    go_enter Try.func38, Try.ntmps38
    go_wp2
    go_loopg [4] 1 (fun kx s4 wr => s4 = .int .i64 m ∧ wr = w)
    case atStart => exact ⟨by first | rfl | rw [hw], rfl⟩
    case round =>
      obtain ⟨rfl, rfl⟩ := hrel
      go_wp2
      go_ret2
      exact ⟨rfl, Below.refl _ _⟩
end
set_option maxRecDepth 100000 in
set_option maxHeartbeats 2000000 in
theorem rhas_any (P : Nat → Prop) (A : Option Addr) (n c : Nat) (rs : RL) (x : Int) (w : World) (hr : RnP w P A n rs) (hnc : n ≤ c) (hcm : c ≤ maxLen) :
    Calls Try.prog 33 #[.slice A n c, .int .u64 x] w fun e w' => e = .returned (.bool (hasL rs x)) ∧ w' = w := by
  have HR := Lib.hid hr
  have HLN := Lib.hid hr.len
  unfold maxLen at hcm
  clear hr
  go_enter Try.func33, Try.ntmps33
  go_wp2
  go_loopg [5] n (fun kx s5 wr => ∃ (i : Nat), s5 = .int .i64 i ∧ i ≤ n ∧ n - i ≤ kx ∧ wr = w ∧ ∀ j r, j < i → rs[j]? = some r → ¬ (r.1 ≤ x ∧ x < r.2))
  case atStart => exact ⟨0, rfl, Nat.zero_le _, by omega, rfl, fun j r h => absurd h (by omega)⟩
  case round =>
    obtain ⟨i, rfl, hin, hkx, rfl, hno⟩ := hrel
    by_cases hlt : i < n
    · have hiz : (i : Int) < (n : Int) := by omega
      obtain ⟨r, hi⟩ : ∃ r, rs[i]? = some r := ⟨_, List.getElem?_eq_getElem (by rw [HLN.out]; exact hlt)⟩
      obtain ⟨b, off, rfl, hb, hP, hc⟩ := HR.out.at_ (by omega)
      obtain ⟨lo, hi2⟩ := r
      have h0 := (hc i _ hi).1
      have h1 := (hc i _ hi).2
      simp only at h0 h1
      have HI := Lib.hid hi
      have HNO := Lib.hid hno
      clear hc hi hno
      by_cases hy : lo ≤ x ∧ x < hi2
      · obtain ⟨hy1, hy2⟩ := hy
        have hh : hasL rs x = true := by
          unfold hasL
          rw [List.any_eq_true]
          exact ⟨_, List.mem_of_getElem? HI.out, by simp [hy1, hy2]⟩
        have HH := Lib.hid hh
        clear hh
        go_wp2
        go_ret
        exact ⟨by rw [HH.out]; rfl, rfl⟩
      · have hn2 : ∀ j r, j < i + 1 → rs[j]? = some r → ¬ (r.1 ≤ x ∧ x < r.2) := fun j r hj hr => by
          rcases Nat.lt_or_ge j i with h | h
          · exact HNO.out j r h hr
          · obtain rfl : j = i := by omega
            rw [HI.out] at hr
            injection hr with hr
            subst hr
            exact hy
        have HN2 := Lib.hid hn2
        clear hn2
        rcases Int.lt_or_le x lo with hx | hx
        · clear hy
          go_wp2
          go_roundg (n - (i + 1))
          case measure => omega
          case rel => exact ⟨i + 1, by simp, by omega, by omega, rfl, HN2.out⟩
        · have hx2 : hi2 ≤ x := by omega
          clear hy
          go_wp2
          go_roundg (n - (i + 1))
          case measure => omega
          case rel => exact ⟨i + 1, by simp, by omega, by omega, rfl, HN2.out⟩
    · obtain rfl : i = n := by omega
      have hh : hasL rs x = false := by
        unfold hasL
        rw [List.any_eq_false]
        intro r hr
        obtain ⟨j, hj⟩ := List.mem_iff_getElem?.1 hr
        have := hno j r (by have := (List.getElem?_eq_some_iff.1 hj).1; have := HLN.out; omega) hj
        simp
        omega
      have HH := Lib.hid hh
      have hiz : ¬ (i : Int) < (i : Int) := by omega
      clear hno hh
      go_wp2
      go_ret
      exact ⟨by rw [HH.out]; rfl, rfl⟩
end Go.Proofs.Ytpihgikcgkipaaa
