/-
  Chapter 17's law: do: Lost.
-/
import Derived.Test.YtphpdaldplkgmaaGreatK1
import Derived.Test.YtphpdaldplkgmaaGreatK2
import Derived.Test.YtphpdaldplkgmaaGreatMq0
import Derived.OpenShut
import Derived.Test.YtphpdaldplkgmaaGreatProg
import Derived.Deep.Slices
import Derived.ChangeSlices
namespace Go.Proofs.YtphpdaldplkgmaaGreat
section
set_option linter.unusedVariables false
set_option linter.unusedSimpArgs false
open Go.RowKit
section
variable {wb W0 W W' Y : World} {base p q pw k : Nat} {O F : Nat → Prop} {L : List FN} {X X1 X2 X' : QS} {off most i : Int} {n m c : Nat} {fin : Bool} {A : Option Addr} {T : List Value}
theorem FX.ok.below {P : Nat → Prop} {x : FX} {w w' : World} (h : x.ok w P) (k : Below w.heap.size w w') : x.ok w' P := FIn.kept h (Kept.of_below k (fun _ => False)) (fun _ _ h => h)
theorem FX.len (x : FX) : x.l.length = 8 := rfl
/-- A frame that is drawn, in any world above. -/
theorem kf_at {x : FX} {B : Nat} (hx : x.ok W (fun b => b < base)) (hB : Below W.heap.size W W') (Z : World) (hZ : Below W'.heap.size W' Z) : Calls Tryz.prog 21 #[.agg x.l.toArray] Z (KFPost Z (fun b => b < base ∨ W'.heap.size ≤ b)) := by
  refine kframe_fx _ x Z (fun b hb => .inr (Nat.le_trans hZ.size hb)) ?_
  exact FIn.mono (FX.ok.below (FX.ok.below hx hB) hZ) fun b _ hb => .inl hb
theorem frV_agg (m : FN) (d r : Sl) : frV m d r = .agg (frL m d r).toArray := rfl
set_option maxRecDepth 100000 in
set_option maxHeartbeats 16000000 in
theorem do_lost17 (h : Lz wb W W base p q pw O (fun _ => False) L X X) (hi : XI k X) (hl : L.length ≤ k) (hk : k < 1000) (hii : -9223372036854775808 ≤ i ∧ i < 9223372036854775808) (x : FX) (hx : x.ok W (fun b => b < base)) (hT : x.l = T) : Calls Tryz.prog 7 #[.pointer (some ⟨pw, 0, none⟩), .agg (aL 8 off most i n fin A m c T).toArray] W fun e w' => e = .returned (.bool true) ∧ DoQ wb W base p q pw k O w' := by
  obtain ⟨g, W1, hg, hW1, hA1, hB1, hgl, h1⟩ := do_box17 (off := off) (most := most) (i := i) (n := n) (fin := fin) (A := A) (m := m) (c := c) (T := T) h 8
  have a0 : W1.cell? ⟨g, 0, none⟩ = some (.int .i64 8) := by rw [hA1.cell]; rfl
  have HA1 := Lib.hid hA1
  have HF0 : Hid (∀ Z, Below W1.heap.size W1 Z → Calls Tryz.prog 21 #[.agg T.toArray] Z (KFPost Z (fun b => b < base ∨ W1.heap.size ≤ b))) := Lib.hid (fun Z hZ => by
    have := kf_at (B := 0) hx hB1 Z hZ
    rw [hT] at this
    exact this)
  have HT8 : Hid (T.length = 8) := Lib.hid (by rw [← hT]; rfl)
  have HRF : Hid (W1.rangeAt g 7 T) := Lib.hid (fun j v hv => by
    rw [hA1.cell]
    show (aL 8 off most i n fin A m c T)[7 + j]? = some v
    unfold aL
    rw [List.getElem?_append_right (by simp), show 7 + j - ([Value.int .i64 8, .int .i64 off, .int .i64 most, .int .i64 i, .int .u64 n, .bool fin, .slice A m c] : List Value).length = j by simp]
    exact hv)
  have HNW : Hid (∀ (w5 w6 : World) (m : FN) (d r : Sl), Below W1.heap.size W1 w5 → w5.alloc (.cells (frL m d r).toArray 54) = w6 → NxA wb W W1 w6 base p q pw w5.heap.size O (fun b => b = g ∨ b < base) L X X (frL m d r)) := Lib.hid (fun w5 w6 m d r hb e => by
    subst e
    exact nx_alloc (h1.below hb) (Kept.of_below hb _) (At.new w5 _ _) ((Below.refl _ _).alloc (Nat.le_refl _) _))
  have HGC : Hid (∀ w, Kept (fun b => ¬ (b = g ∨ b < base)) W1 w → w.cell? ⟨g, 0, none⟩ = some (.int .i64 8) ∧ w.cell? ⟨g, 3, none⟩ = some (.int .i64 i)) := Lib.hid (fun w hk => by
    have hA := hA1.kept hk (fun hn => hn (.inl rfl))
    exact ⟨by rw [hA.cell]; rfl, by rw [hA.cell]; rfl⟩)
  have HI := Lib.hid hi
  have HD : Hid (∀ (F : Nat → Prop) w4 (a b c : Int), Lz wb W w4 base p q pw O F L (lostQ X a b c) (lostQ X a b c) → DoQ wb W base p q pw k O w4) := Lib.hid (fun F w4 a b c hz => hz.done (hi.lost a b c) (by omega))
  obtain ⟨nt, hnt⟩ : ∃ nt, L.length = nt := ⟨_, rfl⟩
  have hnt2 : nt ≤ 1000 := by omega
  have HLN := Lib.hid hnt
  clear h hi hl hk h1 hA1 hB1 hT hx hnt
  unfold aL at hW1 ⊢
  simp only [List.cons_append, List.nil_append] at hW1 ⊢
  go_enter Tryz.func7, Tryz.ntmps7
  go_upto_region 1 with fail
  (try rw [hg])
  (try rw [hW1])
  go_upto_region 23 with (first
    | ((with_reducible refine at_ldf ?_); refine ld_fx g 7 T (by rfl) (by rfl) HRF.out HT8.out ?_)
    | (go_at_call 21; (with_reducible refine (HF0.out _ (Below.refl _ _)).mono ?_); rintro e w5 ⟨mf, df, rf, ds, rs, rfl, _, _, hb5⟩; have HB5 := Lib.hid hb5; clear hb5)
    | ((with_reducible refine at_st (x := .tmp 17) ?_); refine st_top w5 (frL (FN.zero 0) .nil .nil) (frL mf df rf) (by rfl) _ (by rfl) (by rfl) (by rfl) rfl rfl (by rfl) ?_)
    | fail)
  (try simp only [Act.put])
  obtain ⟨w6, hw6⟩ : ∃ w6, w5.alloc (.cells (frL mf df rf).toArray 54) = w6 := ⟨_, rfl⟩
  have hn6 := HNW.out w5 w6 mf df rf HB5.out hw6
  rw [hw6]
  generalize w5.heap.size = gf at hn6 ⊢
  have HN6 := Lib.hid hn6
  clear hn6 hw6 HB5 HNW HF0 HRF HT8 a0
  obtain ⟨O1, O2, tv, hx6⟩ := HN6.out.lz
  obtain ⟨tA, tc, htv, htl, htc⟩ := hx6.1.own.shape
  subst htv
  have q0 : w6.cell? ⟨pw, 0, none⟩ = some (.pointer (some ⟨p, 0, none⟩)) := by rw [hx6.1.at_.cell]; rfl
  have q1 : w6.cell? ⟨pw, 1, none⟩ = some (.pointer (some ⟨q, 0, none⟩)) := by rw [hx6.1.at_.cell]; rfl
  have q2 : w6.cell? ⟨pw, 2, none⟩ = some (.slice tA L.length tc) := by rw [hx6.1.at_.cell]; rfl
  rw [HLN.out] at q2 htl
  have q3 := (HGC.out w6 HN6.out.k).2
  have q4 := (HGC.out w6 HN6.out.k).1
  have hlo := (hx6.2.2.2.1 gf (.inr rfl)).1
  have HLO := Lib.hid hlo
  have HOW := Lib.hid hx6.1.own
  have HPW6 := Lib.hid hx6.1.at_.lt
  clear hx6 hlo htl htc
  obtain ⟨z, hzz⟩ : ∃ z, i.tmod 4 = z := ⟨_, rfl⟩
  have wz : IntKind.i64.wrap z = z := by
    have hzb : -4 < z ∧ z < 4 := by rw [← hzz]; have := Int.tmod_lt_of_pos i (show (0 : Int) < 4 by decide); have := Int.lt_tmod_of_pos i (show (0 : Int) < 4 by decide); omega
    rw [IntKind.wrap_i64]; omega
  obtain ⟨bv, hbv⟩ : ∃ bv : Bool, bv = (decide (0 < nt) && (z != 0)) := ⟨_, rfl⟩
  have HBV := Lib.hid hbv
  clear hbv
  go_cut [180] from 169 to 181 (fun s180 wc => s180 = .bool bv ∧ wc = w6)
  case first =>
    rcases Nat.eq_zero_or_pos nt with hn0 | hn0
    · subst hn0
      have HE : Hid (bv = false) := Lib.hid (by rw [HBV.out]; rfl)
      clear HBV
      go_wp2_with fail
      go_meet
      exact ⟨by rw [HE.out], rfl⟩
    · have hz : (0 : Int) < (nt : Int) := by omega
      cases hz0 : (z != 0) with
      | false =>
        have HE : Hid (bv = false) := Lib.hid (by rw [HBV.out, hz0, Bool.and_false])
        clear HBV
        go_wp2_with fail
        go_meet
        exact ⟨by rw [HE.out], rfl⟩
      | true =>
        have HE : Hid (bv = true) := Lib.hid (by rw [HBV.out, hz0, decide_eq_true hn0]; rfl)
        clear HBV
        go_wp2_with fail
        go_meet
        exact ⟨by rw [HE.out], rfl⟩
  case rest =>
  obtain ⟨rfl, hwc⟩ := hcut
  rw [hwc]
  clear hwc
  go_upto_if 180 with fail
  go_cut [17] from 181 to 196 (fun s17 wc => ∃ (m : FN) (d r : Sl), s17 = .pointer (some ⟨gf, 0, none⟩) ∧ Hid (NxA wb W W1 wc base p q pw gf O (fun b => b = g ∨ b < base) L X X (frL m d r)))
  case first =>
    clear wz hzz
    cases bv with
    | false =>
        go_wp2_with fail
        go_meet
        exact ⟨mf, df, rf, rfl, HN6⟩
    | true =>
        have hn0 : 0 < nt := by
          have := HBV.out
          rcases Nat.eq_zero_or_pos nt with h | h
          · subst h; simp at this
          · exact h
        have hz : (0 : Int) < (nt : Int) := by omega
        clear HBV
        obtain ⟨n1, hn1⟩ : ∃ n1, nt = n1 + 1 := ⟨nt - 1, by omega⟩
        have zn1 : (nt : Int) - 1 = (n1 : Int) := by omega
        have wn1 : IntKind.i64.wrap (n1 : Int) = (n1 : Int) := by rw [IntKind.wrap_i64]; omega
        have hwb := withinS_bd i 0 (n1 : Int) (by omega)
        obtain ⟨jn, hjn⟩ : ∃ jn : Nat, withinS i 0 (n1 : Int) = (jn : Int) := ⟨(withinS i 0 (n1 : Int)).toNat, by omega⟩
        have hjl : jn < nt := by omega
        have hjz : (jn : Int) < (nt : Int) := by omega
        have HWI : Hid (∀ W : World, Calls Tryz.prog 13 #[.int .i64 i, .int .i64 0, .int .i64 n1] W fun e w' => e = .returned (.int .i64 jn) ∧ W = w') := Lib.hid (fun W => by
          have := within_any i 0 (n1 : Int) W hii.1 (by have := hii.2; omega) (by decide) (by omega) (by omega)
          rw [hjn] at this
          exact this)
        obtain ⟨y, hy⟩ : ∃ y, L[jn]? = some y := ⟨_, List.getElem?_eq_getElem (by rw [HLN.out]; exact hjl)⟩
        obtain ⟨gA, hgA, hr⟩ := OwnT.get HOW.out jn y hy
        subst hgA
        obtain ⟨LF, hLF⟩ : ∃ LF, frL y .nil .nil = LF := ⟨_, rfl⟩
        rw [hLF] at hr
        have HFl : Hid (LF.length = 19) := Lib.hid (by rw [← hLF]; rfl)
        have HFo : Hid (LF.all (·.oneCell') = true) := Lib.hid (by rw [← hLF]; rfl)
        have HLF := Lib.hid hLF
        obtain ⟨Y5, hY5⟩ : ∃ Y5, w6.drew = Y5 := ⟨_, rfl⟩
        have hBY : Below w6.heap.size w6 Y5 := by rw [← hY5]; exact belowN (Below.refl _ _) 1
        have HN5 := Lib.hid (NxA.below HN6.out hBY)
        have HS5 : Hid (Y5.cell? ⟨pw, 2, none⟩ = some (.slice (some ⟨gA, 0, none⟩) nt tc) ∧ Y5.cell? ⟨g, 3, none⟩ = some (.int .i64 i) ∧ Y5.rangeAt gA (jn * 19) LF) := Lib.hid (by rw [← hY5]; exact ⟨q2, q3, hr⟩)
        have HKS : Hid (∀ w9, Kept (· = gf) Y5 w9 → w9.cell? ⟨pw, 2, none⟩ = some (.slice (some ⟨gA, 0, none⟩) nt tc) ∧ w9.cell? ⟨g, 3, none⟩ = some (.int .i64 i) ∧ w9.rangeAt gA (jn * 19) LF) := Lib.hid (fun w9 hk9 => by
          have e1 : pw ≠ gf := fun e => HLO.out (.inr (.inr (.inl e.symm)))
          have e2 : g ≠ gf := fun e => HN6.out.nf (.inl e.symm)
          have e3 : gA ≠ gf := fun e => HLO.out (.inr (.inr (.inr (by rw [← e]; rfl))))
          have l1 : pw < Y5.heap.size := by have := HPW6.out; have := hBY.size; omega
          have l2 : g < Y5.heap.size := by have := HN6.out.k.size; have := hBY.size; omega
          have l3 : gA < Y5.heap.size := by have := (HOW.out.block_lt gA rfl).2; have := hBY.size; omega
          obtain ⟨s1, s2, s3⟩ := HS5.out
          exact ⟨(hk9.cell (p := ⟨pw, 2, none⟩) l1 e1).trans s1, (hk9.cell (p := ⟨g, 3, none⟩) l2 e2).trans s2, fun i v hv => (hk9.cell (p := ⟨gA, jn * 19 + i, none⟩) l3 e3).trans (s3 i v hv)⟩)
        clear hLF hr hwb hjn hn1 hn0 hy hBY
        go_upto_region 24 with fail
        refine wp_region_held_drew (S := (fun w => w.cell? ⟨pw, 2, none⟩ = some (.slice (some ⟨gA, 0, none⟩) nt tc) ∧ w.cell? ⟨g, 3, none⟩ = some (.int .i64 i) ∧ w.rangeAt gA (jn * 19) LF)) (by kernel_rfl) (by rw [hY5]; exact HS5.out) (fun hHeld => ?_)
        rw [hY5] at hHeld ⊢
        clear hY5
        refine tkq 0 (some 181) (v := ?_) rfl (Or.inl ⟨by rfl, ?_⟩) (by assumption) ?_
        rotate_left
        · intro w hSw; (try dsimp only at hSw); go_simp; first | done | (with_reducible rfl)
        simp only [Act.put, List.setIfInBounds_toArray, List.set_cons_zero, List.set_cons_succ]
        refine tkq 1 (some 182) (v := ?_) rfl (Or.inl ⟨by rfl, ?_⟩) (by assumption) ?_
        rotate_left
        · intro w hSw; (try dsimp only at hSw); go_simp; first | done | (with_reducible rfl)
        simp only [Act.put, List.setIfInBounds_toArray, List.set_cons_zero, List.set_cons_succ]
        refine tkq 2 (some 183) (v := ?_) rfl (Or.inl ⟨by rfl, ?_⟩) (by assumption) ?_
        rotate_left
        · intro w hSw; (try dsimp only at hSw); go_simp; first | done | (with_reducible rfl)
        simp only [Act.put, List.setIfInBounds_toArray, List.set_cons_zero, List.set_cons_succ]
        refine tkq 3 (some 184) (v := ?_) rfl (Or.inl ⟨by rfl, ?_⟩) (by assumption) ?_
        rotate_left
        · intro w hSw; (try dsimp only at hSw); go_simp; first | done | (with_reducible rfl)
        simp only [Act.put, List.setIfInBounds_toArray, List.set_cons_zero, List.set_cons_succ]
        refine tkq 4 (some 185) (v := ?_) rfl (Or.inl ⟨by rfl, ?_⟩) (by assumption) ?_
        rotate_left
        · intro w hSw; (try dsimp only at hSw); go_simp; first | done | (with_reducible rfl)
        simp only [Act.put, List.setIfInBounds_toArray, List.set_cons_zero, List.set_cons_succ]
        refine tkq 5 (some 186) (v := ?_) rfl (Or.inl ⟨by rfl, ?_⟩) (by assumption) ?_
        rotate_left
        · intro w hSw; (try dsimp only at hSw); go_simp; first | done | (with_reducible rfl)
        simp only [Act.put, List.setIfInBounds_toArray, List.set_cons_zero, List.set_cons_succ]
        refine tkq 6 (some 187) (v := ?_) rfl (Or.inl ⟨by rfl, ?_⟩) (by assumption) ?_
        rotate_left
        · intro w hSw; (try dsimp only at hSw); go_simp; first | done | (with_reducible rfl)
        simp only [Act.put, List.setIfInBounds_toArray, List.set_cons_zero, List.set_cons_succ]
        refine tkq 7 (some 188) (v := ?_) rfl (Or.inl ⟨by rfl, ?_⟩) (by assumption) ?_
        rotate_left
        · intro w hSw; (try dsimp only at hSw); go_simp; first | done | (with_reducible rfl)
        simp only [Act.put, List.setIfInBounds_toArray, List.set_cons_zero, List.set_cons_succ]
        refine tkq 8 (some 189) (v := ?_) rfl (Or.inl ⟨by rfl, ?_⟩) (by assumption) ?_
        rotate_left
        · intro w hSw; (try dsimp only at hSw); go_simp; first | done | (with_reducible rfl)
        simp only [Act.put, List.setIfInBounds_toArray, List.set_cons_zero, List.set_cons_succ]
        refine tkq 9 (some 190) (v := ?_) rfl (Or.inl ⟨by rfl, ?_⟩) (by assumption) ?_
        rotate_left
        · intro w hSw; (try dsimp only at hSw); go_simp; first | done | (with_reducible rfl)
        simp only [Act.put, List.setIfInBounds_toArray, List.set_cons_zero, List.set_cons_succ]
        refine tkq 10 (some 191) (v := ?_) rfl (Or.inl ⟨by rfl, ?_⟩) (by assumption) ?_
        rotate_left
        · intro w hSw; (try dsimp only at hSw); go_simp; first | done | (with_reducible rfl)
        simp only [Act.put, List.setIfInBounds_toArray, List.set_cons_zero, List.set_cons_succ]
        refine tkq 11 (some 192) (v := ?_) rfl (Or.inl ⟨by rfl, ?_⟩) (by assumption) ?_
        rotate_left
        · intro w hSw; (try dsimp only at hSw); go_simp; first | done | (with_reducible rfl)
        simp only [Act.put, List.setIfInBounds_toArray, List.set_cons_zero, List.set_cons_succ]
        refine wpAnyH_ready (rs := [12]) (by kernel_rfl) (by simp) ?_
        refine AllReadyH.cons rfl (fun K hK => ?_) AllReadyH.nil
        go_simp
        go_wp2_with (go_at_call 13; (with_reducible refine (HWI.out _).mono ?_); rintro e w8 ⟨rfl, rfl⟩)
        refine hK.out _ _ (HS5.out) (fun hHeld => ?_)
        clear hK K
        refine tkq 13 (some 194) (v := ?_) rfl (Or.inl ⟨by rfl, ?_⟩) (by assumption) ?_
        rotate_left
        · intro w hSw; (try dsimp only at hSw); go_simp; first | done | (with_reducible rfl)
        simp only [Act.put, List.setIfInBounds_toArray, List.set_cons_zero, List.set_cons_succ]
        refine tkq 14 (some 195) (v := ?_) rfl ?_ (by assumption) ?_
        rotate_left
        · refine yl_any 54 (.tmp 194) ?_ gA (jn * 19) ?_ LF _ ?_ Tryz.underlying54 rfl ?_ ?_
          · rfl
          · rfl
          · intro w hSw; exact (by simpa using hSw.2.2)
          · rw [HFl.out]; exact fr_info
          · rfl
        simp only [Act.put, List.setIfInBounds_toArray, List.set_cons_zero, List.set_cons_succ]
        refine wpAnyH_ready (rs := [15]) (by kernel_rfl) (by simp) ?_
        refine AllReadyH.cons rfl (fun K hK => ?_) AllReadyH.nil
        refine step_st_in17 (by rfl) gf 0 54 _ LF (by rfl) (by rfl) HN5.out.at_ (by rw [HFl.out]; exact Nat.le_refl 19) (by rw [HFl.out]; exact fr_info) HFo.out ?_
        intro w9 hA9x hk9
        have HN9 := Lib.hid (nx_store (l' := LF) HN5.out (by rw [HFl.out] at hA9x; simpa [frL] using hA9x) hk9)
        have HK9 := Lib.hid hk9
        clear hA9x hk9
        refine hK.out _ _ (HKS.out _ HK9.out) (fun hHeld => ?_)
        clear hK K
        refine wpAnyH_done (by kernel_rfl) ?_ _
        go_wp2_with fail
        go_meet
        exact ⟨y, .nil, .nil, rfl, by rw [HLF.out]; exact HN9⟩
  case rest =>
    obtain ⟨m2, d2, r2, rfl, HN⟩ := hcut
    obtain ⟨F2, hF2⟩ : ∃ F2 : Nat → Prop, F2 = fun b => (b = g ∨ b < base) ∨ b = gf := ⟨_, rfl⟩
    obtain ⟨LF, hLF⟩ : ∃ LF, frL m2 d2 r2 = LF := ⟨_, rfl⟩
    have HFl : Hid (LF.length = 19) := Lib.hid (by rw [← hLF]; rfl)
    obtain ⟨Y6, hY6⟩ : ∃ Y6, wc.drew = Y6 := ⟨_, rfl⟩
    have hB6 : Below wc.heap.size wc Y6 := by rw [← hY6]; exact belowN (Below.refl _ _) 1
    have hz6 : Lz wb W Y6 base p q pw O F2 L X X := by rw [hF2]; exact HN.out.lz.below hB6
    have H1 := Lib.hid (two_lost hz6 HI.out m2 d2 r2)
    have hF2g : F2 gf := by rw [hF2]; exact .inr rfl
    have HSS : Hid (∀ w, Kept (fun b => ¬ F2 b) Y6 w → ∀ {F' : Nat → Prop} X3 X4, Lz wb W w base p q pw O F' L X3 X4 → w.cell? ⟨pw, 0, none⟩ = some (.pointer (some ⟨p, 0, none⟩)) ∧ w.cell? ⟨pw, 1, none⟩ = some (.pointer (some ⟨q, 0, none⟩)) ∧ w.rangeAt gf 0 LF) := Lib.hid (fun w hk F' X3 X4 hz => by
      have hA2 := (HN.out.at_.below hB6 HN.out.at_.lt).kept hk (fun hn => hn hF2g)
      exact ⟨hz.p0, hz.p1, fun j v hv => by rw [Nat.zero_add, hA2.cell, hLF]; exact hv⟩)
    have HS6 := Lib.hid (HSS.out Y6 (Kept.refl _ _) _ _ hz6)
    have r0 := (HGC.out wc HN.out.k).1
    have HOK := Lib.hid (HI.out.lost m2.k m2.s m2.l).ok
    have HDX := Lib.hid (fun F w4 hz => HD.out F w4 m2.k m2.s m2.l hz)
    rw [frV_agg, hLF] at H1
    clear hF2g hB6 hz6 q0 q1 q2 q3 q4 wz hzz HBV HN6 HLO HOW HPW6 HD hLF hF2
    generalize lostQ X m2.k m2.s m2.l = X5 at H1 HOK HDX
    go_upto_region 25 with fail
    refine wp_region_held_drew (S := (fun w => w.cell? ⟨pw, 0, none⟩ = some (.pointer (some ⟨p, 0, none⟩)) ∧ w.cell? ⟨pw, 1, none⟩ = some (.pointer (some ⟨q, 0, none⟩)) ∧ w.rangeAt gf 0 LF)) (by kernel_rfl) (by rw [hY6]; exact HS6.out) (fun hHeld => ?_)
    rw [hY6] at hHeld ⊢
    clear hY6
    refine tkq 0 (some 196) (v := ?_) rfl (Or.inl ⟨by rfl, ?_⟩) (by assumption) ?_
    rotate_left
    · intro w hSw; (try dsimp only at hSw); go_simp; first | done | (with_reducible rfl)
    simp only [Act.put, List.setIfInBounds_toArray, List.set_cons_zero, List.set_cons_succ]
    refine tkq 1 (some 197) (v := ?_) rfl (Or.inl ⟨by rfl, ?_⟩) (by assumption) ?_
    rotate_left
    · intro w hSw; (try dsimp only at hSw); go_simp; first | done | (with_reducible rfl)
    simp only [Act.put, List.setIfInBounds_toArray, List.set_cons_zero, List.set_cons_succ]
    refine tkq 2 (some 198) (v := ?_) rfl (Or.inl ⟨by rfl, ?_⟩) (by assumption) ?_
    rotate_left
    · intro w hSw; (try dsimp only at hSw); go_simp; first | done | (with_reducible rfl)
    simp only [Act.put, List.setIfInBounds_toArray, List.set_cons_zero, List.set_cons_succ]
    refine tkq 3 (some 199) (v := ?_) rfl (Or.inl ⟨by rfl, ?_⟩) (by assumption) ?_
    rotate_left
    · intro w hSw; (try dsimp only at hSw); go_simp; first | done | (with_reducible rfl)
    simp only [Act.put, List.setIfInBounds_toArray, List.set_cons_zero, List.set_cons_succ]
    refine tkq 4 (some 200) (v := ?_) rfl ?_ (by assumption) ?_
    rotate_left
    · refine yl_any 54 (.tmp 17) ?_ gf 0 ?_ LF _ ?_ Tryz.underlying54 rfl ?_ ?_
      · rfl
      · rfl
      · intro w hSw; exact hSw.2.2
      · rw [HFl.out]; exact fr_info
      · rfl
    simp only [Act.put, List.setIfInBounds_toArray, List.set_cons_zero, List.set_cons_succ]
    refine wpAnyH_ready (rs := [5]) (by kernel_rfl) (by simp) ?_
    refine AllReadyH.cons rfl (fun K hK => ?_) AllReadyH.nil
    go_simp
    go_wp2_with (go_at_call 22; (with_reducible refine H1.out.mono ?_); rintro e w2 ⟨rfl, hl1, hn1⟩; have HL1 := Lib.hid hl1; have HN1 := Lib.hid hn1; clear hl1 hn1)
    refine hK.out _ _ (HSS.out _ HL1.out.2 _ _ HL1.out.1) (fun hHeld => ?_)
    clear hK K
    refine wpAnyH_done (by kernel_rfl) ?_ _
    obtain ⟨Y7, hY7⟩ : ∃ Y7, w2.drew = Y7 := ⟨_, rfl⟩
    have hB7 : Below w2.heap.size w2 Y7 := by rw [← hY7]; exact belowN (Below.refl _ _) 1
    have HK7 : Hid (Kept (fun b => ¬ F2 b) Y6 Y7) := Lib.hid (HL1.out.2.trans (Kept.of_below hB7 _))
    have HS7 := Lib.hid (HSS.out Y7 HK7.out _ _ (HL1.out.1.below hB7))
    go_upto_region 26 with fail
    refine wp_region_held_drew (S := (fun w => w.cell? ⟨pw, 0, none⟩ = some (.pointer (some ⟨p, 0, none⟩)) ∧ w.cell? ⟨pw, 1, none⟩ = some (.pointer (some ⟨q, 0, none⟩)) ∧ w.rangeAt gf 0 LF)) (by kernel_rfl) (by rw [hY7]; exact HS7.out) (fun hHeld => ?_)
    rw [hY7] at hHeld ⊢
    clear hY7
    refine tkq 0 (some 202) (v := ?_) rfl (Or.inl ⟨by rfl, ?_⟩) (by assumption) ?_
    rotate_left
    · intro w hSw; (try dsimp only at hSw); go_simp; first | done | (with_reducible rfl)
    simp only [Act.put, List.setIfInBounds_toArray, List.set_cons_zero, List.set_cons_succ]
    refine tkq 1 (some 203) (v := ?_) rfl (Or.inl ⟨by rfl, ?_⟩) (by assumption) ?_
    rotate_left
    · intro w hSw; (try dsimp only at hSw); go_simp; first | done | (with_reducible rfl)
    simp only [Act.put, List.setIfInBounds_toArray, List.set_cons_zero, List.set_cons_succ]
    refine tkq 2 (some 204) (v := ?_) rfl (Or.inl ⟨by rfl, ?_⟩) (by assumption) ?_
    rotate_left
    · intro w hSw; (try dsimp only at hSw); go_simp; first | done | (with_reducible rfl)
    simp only [Act.put, List.setIfInBounds_toArray, List.set_cons_zero, List.set_cons_succ]
    refine tkq 3 (some 205) (v := ?_) rfl (Or.inl ⟨by rfl, ?_⟩) (by assumption) ?_
    rotate_left
    · intro w hSw; (try dsimp only at hSw); go_simp; first | done | (with_reducible rfl)
    simp only [Act.put, List.setIfInBounds_toArray, List.set_cons_zero, List.set_cons_succ]
    refine tkq 4 (some 206) (v := ?_) rfl ?_ (by assumption) ?_
    rotate_left
    · refine yl_any 54 (.tmp 17) ?_ gf 0 ?_ LF _ ?_ Tryz.underlying54 rfl ?_ ?_
      · rfl
      · rfl
      · intro w hSw; exact hSw.2.2
      · rw [HFl.out]; exact fr_info
      · rfl
    simp only [Act.put, List.setIfInBounds_toArray, List.set_cons_zero, List.set_cons_succ]
    refine wpAnyH_ready (rs := [5]) (by kernel_rfl) (by simp) ?_
    refine AllReadyH.cons rfl (fun K hK => ?_) AllReadyH.nil
    go_simp
    go_wp2_with (go_at_call 23; (with_reducible refine (HN1.out _ hB7).mono ?_); rintro e w3 ⟨rfl, hl2⟩; have HL2 := Lib.hid hl2; have HZ2 := Lib.hid hl2.1; clear hl2)
    refine hK.out _ _ (HSS.out _ (HK7.out.trans HL2.out.2) _ _ HZ2.out) (fun hHeld => ?_)
    clear hK K
    refine wpAnyH_done (by kernel_rfl) ?_ _
    go_wp2_with (first | (go_at_call 25; (with_reducible refine (same17 HZ2.out HOK.out).mono ?_); rintro e w4 ⟨rfl, hb4⟩; have HB4 := Lib.hid hb4; clear hb4) | fail)
    go_ret
    exact ⟨by first | rfl | simp, HDX.out _ _ (HZ2.out.below HB4.out)⟩
end
end
section
set_option linter.unusedVariables false
set_option linter.unusedSimpArgs false
open Go.RowKit
section
variable {wb W0 W W' Y : World} {base p q pw k : Nat} {O F : Nat → Prop} {L : List FN} {X X1 X2 X' : QS} {off most i : Int} {n m c : Nat} {fin : Bool} {A : Option Addr} {T : List Value}
theorem FN.wf.stream {m : FN} (h : m.wf) (id : Nat) (hi : id < 18446744073709551616) : ({ m with s := (id : Int) } : FN).wf :=
  { h with s0 := by show 0 ≤ (id : Int); omega, s1 := by show (id : Int) < _; omega }
set_option maxRecDepth 100000 in
set_option maxHeartbeats 16000000 in
theorem do_any17 (h : Lz wb W W base p q pw O (fun _ => False) L X X) (hi : XI k X) (hl : L.length ≤ k) (hk : k < 1000) (hii : -9223372036854775808 ≤ i ∧ i < 9223372036854775808) (x : FX) (hx : x.ok W (fun b => b < base)) (hT : x.l = T) : Calls Tryz.prog 7 #[.pointer (some ⟨pw, 0, none⟩), .agg (aL 9 off most i n fin A m c T).toArray] W fun e w' => e = .returned (.bool true) ∧ DoQ wb W base p q pw k O w' := by
  obtain ⟨g, W1, hg, hW1, hA1, hB1, hgl, h1⟩ := do_box17 (off := off) (most := most) (i := i) (n := n) (fin := fin) (A := A) (m := m) (c := c) (T := T) h 9
  have a0 : W1.cell? ⟨g, 0, none⟩ = some (.int .i64 9) := by rw [hA1.cell]; rfl
  have HF0 : Hid (∀ Z, Below W1.heap.size W1 Z → Calls Tryz.prog 21 #[.agg T.toArray] Z (KFPost Z (fun b => b < base ∨ W1.heap.size ≤ b))) := Lib.hid (fun Z hZ => by
    have := kf_at (B := 0) hx hB1 Z hZ
    rw [hT] at this
    exact this)
  have HT8 : Hid (T.length = 8) := Lib.hid (by rw [← hT]; rfl)
  have HRF : Hid (W1.rangeAt g 7 T) := Lib.hid (fun j v hv => by
    rw [hA1.cell]
    show (aL 9 off most i n fin A m c T)[7 + j]? = some v
    unfold aL
    rw [List.getElem?_append_right (by simp), show 7 + j - ([Value.int .i64 9, .int .i64 off, .int .i64 most, .int .i64 i, .int .u64 n, .bool fin, .slice A m c] : List Value).length = j by simp]
    exact hv)
  have HNW : Hid (∀ (w5 w6 : World) (m : FN) (d r : Sl) (ds : List Int) (rs : RS), Fits w5 (fun b => b < base ∨ W1.heap.size ≤ b) m d r ds rs → Below W1.heap.size W1 w5 → w5.alloc (.cells (frL m d r).toArray 54) = w6 → ∃ F, NxA wb W w5 w6 base p q pw w5.heap.size O F L X X (frL m d r) ∧ RdP w6 F d.A d.n ds) := Lib.hid (fun w5 w6 m d r ds rs hf hb e => by
    subst e
    have hz5 : Lz wb W w5 base p q pw O (fun b => (b = g ∨ b < base) ∨ (W1.heap.size ≤ b ∧ b < w5.heap.size)) L X X := h1.fresh hb fun b hb => hb
    refine ⟨_, nx_alloc hz5 (Kept.refl _ _) (At.new w5 _ _) ((Below.refl _ _).alloc (Nat.le_refl _) _), ?_⟩
    have hr : RdP w5 (fun b => (b = g ∨ b < base) ∨ (W1.heap.size ≤ b ∧ b < w5.heap.size)) d.A d.n ds := hf.dt.rd.mono fun b hb' hp => hp.elim (fun e => .inl (.inr e)) fun e => .inr ⟨e, hb'⟩
    exact hr.kept ((Kept.refl (fun _ => False) w5).alloc _) (fun _ _ h => h))
  have HGC : Hid (∀ w, Below W1.heap.size W1 w → w.cell? ⟨g, 3, none⟩ = some (.int .i64 i)) := Lib.hid (fun w hk => by
    rw [(hA1.below hk hgl).cell]; rfl)
  have HID : Hid (X.id < 18446744073709551616) := Lib.hid (by have := hi.id; omega)
  have HON : Hid (∀ (Z : World) (F : Nat → Prop) (m : FN) (d r : Sl) (ds : List Int), Lz wb W Z base p q pw O F L X X → m.wf → RdP Z F d.A d.n ds → d.n ≤ d.c → d.n < 9223372036854775808 → Calls Tryz.prog 12 #[.pointer (some ⟨pw, 0, none⟩), .agg (frL m d r).toArray] Z fun e w' => e = .returned (.bool true) ∧ DoQ wb W base p q pw k O w') := Lib.hid (fun Z F m d r ds hz hm hr hdc hdn => by
    refine (on17 hz hi hk m d r ds hm hr hdc hdn).mono ?_
    rintro e w' ⟨rfl, hp⟩
    exact ⟨rfl, hp.1.done (hi.on m ds hm hr.byt) (by omega)⟩)
  clear h hi hl hk h1 hA1 hT hx hB1 hgl
  unfold aL at hW1 ⊢
  simp only [List.cons_append, List.nil_append] at hW1 ⊢
  go_enter Tryz.func7, Tryz.ntmps7
  go_upto_region 1 with fail
  (try rw [hg])
  (try rw [hW1])
  go_upto_region 29 with (first
    | ((with_reducible refine at_ldf ?_); refine ld_fx g 7 T (by rfl) (by rfl) HRF.out HT8.out ?_)
    | (go_at_call 21; (with_reducible refine (HF0.out _ (Below.refl _ _)).mono ?_); rintro e w5 ⟨mf, df, rf, ds, rs, rfl, hft, _, hb5⟩; have HFT := Lib.hid hft; have HB5 := Lib.hid hb5; clear hb5 hft)
    | ((with_reducible refine at_st (x := .tmp 18) ?_); refine st_top w5 (frL (FN.zero 0) .nil .nil) (frL mf df rf) (by rfl) _ (by rfl) (by rfl) (by rfl) rfl rfl (by rfl) ?_)
    | fail)
  (try simp only [Act.put])
  obtain ⟨w6, hw6⟩ : ∃ w6, w5.alloc (.cells (frL mf df rf).toArray 54) = w6 := ⟨_, rfl⟩
  obtain ⟨F2, hn6, hr6⟩ := HNW.out w5 w6 mf df rf ds rs HFT.out HB5.out hw6
  have q3 := HGC.out w6 (HB5.out.trans (by rw [← hw6]; exact (Below.refl _ _).alloc HB5.out.size _))
  rw [hw6]
  generalize w5.heap.size = gf at hn6 ⊢
  have HN6 := Lib.hid hn6
  have HR6 := Lib.hid hr6
  have HWF := Lib.hid HFT.out.wf
  have HDC : Hid (df.n ≤ df.c ∧ df.n < 9223372036854775808) := Lib.hid (by have := HFT.out.dt.lc; have := HFT.out.dt.cm; unfold maxLen at this; omega)
  clear hn6 hr6 hw6 HB5 HNW HF0 HRF HT8 a0 HFT HGC
  have q1 : w6.cell? ⟨pw, 1, none⟩ = some (.pointer (some ⟨q, 0, none⟩)) := HN6.out.lz.p1
  have qi : w6.cell? ⟨q, 0, none⟩ = some (.int .u64 X.id) := HN6.out.lz.q0
  have hAF := HN6.out.at_
  have f1 := hAF.frozen 1
  have f0 : w6.cell? ⟨gf, 1, none⟩ = some (.int .u64 mf.s) := by rw [hAF.cell]; rfl
  obtain ⟨z, hzz⟩ : ∃ z, i.tmod 2 = z := ⟨_, rfl⟩
  have wz : IntKind.i64.wrap z = z := by
    have hzb : -2 < z ∧ z < 2 := by rw [← hzz]; have := Int.tmod_lt_of_pos i (show (0 : Int) < 2 by decide); have := Int.lt_tmod_of_pos i (show (0 : Int) < 2 by decide); omega
    rw [IntKind.wrap_i64]; omega
  obtain ⟨bz, hbz⟩ : ∃ bz : Bool, (z == 0) = bz := ⟨_, rfl⟩
  go_cut [216] from 213 to 217 (fun s216 wc => s216 = .bool bz ∧ wc = w6)
  case first =>
    go_wp2_with fail
    go_meet
    exact ⟨by first | rfl | (rw [← hbz]), rfl⟩
  case rest =>
  obtain ⟨rfl, hwc⟩ := hcut
  rw [hwc]
  clear hwc hbz
  go_upto_if 216 with fail
  go_cut [18] from 217 to 225 (fun s18 wc => s18 = .pointer (some ⟨gf, 0, none⟩) ∧ ∃ m', Hid (m'.wf ∧ NxA wb W w5 wc base p q pw gf O F2 L X X (frL m' df rf) ∧ RdP wc F2 df.A df.n ds))
  case first =>
    cases bz with
    | false =>
      go_wp2_with fail
      go_meet
      exact ⟨rfl, mf, Lib.hid ⟨HWF.out, HN6.out, HR6.out⟩⟩
    | true =>
      have HFN : Hid (∀ W9, w6.setCell ⟨gf, 1, none⟩ (.int .u64 X.id) = W9 → ∃ m', Hid (FN.wf m' ∧ NxA wb W w5 W9 base p q pw gf O F2 L X X (frL m' df rf) ∧ RdP W9 F2 df.A df.n ds)) := Lib.hid (fun W9 hW9 => by
        have k9 : Kept (· = gf) w6 W9 := by rw [← hW9]; exact (Kept.refl _ _).setAt 1 _
        have hA9 : At W9 gf 54 (frL { mf with s := (X.id : Int) } df rf) := by rw [← hW9]; exact hAF.set 1 (.int .u64 X.id)
        exact ⟨_, Lib.hid ⟨HWF.out.stream X.id HID.out, nx_store HN6.out hA9 k9, HR6.out.kept k9 fun b hb e => HN6.out.nf (e ▸ hb)⟩⟩)
      go_wp2_with fail
      go_meet
      exact ⟨rfl, HFN.out _ rfl⟩
  case rest =>
  obtain ⟨rfl, m', hC⟩ := hcut
  have hA9 := hC.out.2.1.at_
  have HC := Lib.hid (HON.out wc _ m' df rf ds hC.out.2.1.lz hC.out.1 (hC.out.2.2.mono fun b _ hb => .inl hb) HDC.out.1 HDC.out.2)
  clear HON hC hAF f1 q1 qi q3
  go_wp2_with (first
    | ((with_reducible refine at_ld ?_); refine ld_fr_g gf (frL m' df rf) (by rfl) (by rfl) hA9 (by rfl) ?_)
    | (go_at_call 12; (with_reducible refine HC.out.mono ?_); rintro e w7 ⟨rfl, hd7⟩; have HD7 := Lib.hid hd7; clear hd7)
    | fail)
  go_ret
  exact ⟨by first | rfl | simp, HD7.out⟩
end
end
section
set_option linter.unusedVariables false
open Go.RowKit
/-- A row of bytes that came in: what the walk needs of it. -/
def InRow (w : World) (A : Option Addr) (n c : Nat) (bs : List Int) : Prop := Rd w w.heap.size A n bs ∧ n ≤ c ∧ c ≤ maxLen ∧ (A = none → c = 0)
theorem cell_lt {w : World} {b off : Nat} {v : Value} (h : w.cell? ⟨b, off, none⟩ = some v) : b < w.heap.size := by
  rcases Nat.lt_or_ge b w.heap.size with hlt | hge
  · exact hlt
  · have e : w.heap[b]? = none := Array.getElem?_eq_none hge
    simp [World.cell?, e] at h
theorem inRow_nil (w : World) (n c : Nat) (hn : n = 0) (hc : c = 0) : InRow w none n c [] := by
  subst hn; subst hc
  exact ⟨Rd.none_ _ _ _, Nat.le_refl _, by unfold maxLen; omega, fun _ => rfl⟩
theorem inRow_some {w : World} {x : Addr} {len cap : Nat} {zs : List Int} (hl : len ≤ cap) (hm : cap ≤ maxLen) (hz : zs.length = cap)
    (hcell : ∀ i, i < zs.length → w.cell? (x.add i) = some (.int .u8 (zs.getD i 0))) (hw : ∀ n ∈ zs, (Lit.int .u8 n).wf = true) : InRow w (some x) len cap (zs.take len) := by
  refine ⟨⟨by rw [List.length_take]; omega, fun y hy => ?_, fun hp => ?_⟩, hl, hm, fun h => by cases h⟩
  · have := bounds_u8 (hw y (List.mem_of_mem_take hy))
    omega
  · obtain ⟨b, off, spot⟩ := x
    have h0 := hcell 0 (by omega)
    have hs : spot = none := by simpa [Addr.add] using World.cell?_spot h0
    subst hs
    have h1 := hcell 0 (by omega)
    rw [addr_add] at h1
    refine ⟨b, off, rfl, cell_lt h1, fun i hi => ?_⟩
    have h2 := hcell i (by omega)
    rw [addr_add] at h2
    rw [h2, List.getD_eq_getElem?_getD, List.getD_eq_getElem?_getD, List.getElem?_take_of_lt hi]
end
section
set_option linter.unusedVariables false
open Go.RowKit Go.ChangeShapes Go.WideShapes Go.Deep
section
variable {H : Type} {enc : TypeId × Value → H} {P : Program} {w : World}
/-- What a reading of a row of bytes says in the words of the walks. -/
theorem inRow_of_trod {t e : TypeId} {fuel : Nat} {cs : List Value} {x : DataW H × List MemPlace} (ht : P.underlying t = some (.slice e)) (he : P.underlying e = some (.int .u8)) (hc : P.cellsOf e = 1)
    (h : DataW.trod enc P w 0 (fun _ => true) true fuel t cs = some x) : ∃ A len cap bs, cs = [.slice A len cap] ∧ InRow w A len cap bs := by
  rcases open_ints ht he hc h with ⟨hcs, _⟩ | ⟨x, l, c, zs, hcs, _, hl, hm, hz, _, hcell, hwz⟩
  · exact ⟨none, 0, 0, [], hcs, inRow_nil w 0 0 rfl rfl⟩
  · exact ⟨_, _, _, _, hcs, inRow_some hl hm (by simpa using hz) hcell hwz⟩
end
theorem choose_list {α : Type} {p : Nat → α → Prop} : ∀ n : Nat, (∀ i, i < n → ∃ d, p i d) → ∃ L : List α, L.length = n ∧ ∀ i d, L[i]? = some d → p i d
  | 0, _ => ⟨[], rfl, fun i d h => by simp at h⟩
  | n + 1, h => by
    obtain ⟨L, hl, hp⟩ := choose_list n fun i hi => h i (by omega)
    obtain ⟨d, hd⟩ := h n (by omega)
    refine ⟨L ++ [d], by simp [hl], fun i e he => ?_⟩
    rcases Nat.lt_or_ge i n with hi | hi
    · rw [List.getElem?_append_left (by omega)] at he
      exact hp i e he
    · rw [List.getElem?_append_right (by omega)] at he
      have : i = n := by
        rcases Nat.lt_or_ge (i - L.length) 1 with h1 | h1
        · omega
        · rw [List.getElem?_eq_none (by simpa using h1)] at he; cases he
      subst this
      rw [hl, Nat.sub_self] at he
      simp at he
      subst he
      exact hd
end
end Go.Proofs.YtphpdaldplkgmaaGreat
