/-
  The document's sets: Has, Some, Count, Gap; rows of ranges held against one another.
-/
import Derived.Test.YtoooinjhcgpbgaaQe
import Derived.Test.YtoooinjhcgpbgaaQm
import Derived.Laws.StructEq
import Derived.ChangeKeysEq
import Derived.OwnWalk
import Derived.RegionTactic
namespace Go.Proofs.Ytoooinjhcgpbgaa
set_option linter.unusedVariables false
set_option linter.unusedSimpArgs false
open Go.RowKit
section
variable {w : World} {base : Nat} {v : Value} {l : RL}
theorem OwnL.el {g n c : Nat} (h : OwnL w base (.slice (some ⟨g, 0, none⟩) n c) l) {i : Nat} {r : Int × Int} (hi : l[i]? = some r) : w.cell? ⟨g, i * 2, none⟩ = some (.int .u64 r.1) ∧ w.cell? ⟨g, i * 2 + 1, none⟩ = some (.int .u64 r.2) := by
  obtain ⟨g', c', e, _, _, h1, h2⟩ := h.cell hi
  injection e with e _ _
  injection e with e
  injection e with e
  subst e
  exact ⟨h1, h2⟩
theorem OwnL.at_ {A : Option Addr} {n c : Nat} (h : OwnL w base (.slice A n c) l) {i : Nat} {r : Int × Int} (hi : l[i]? = some r) : ∃ g, A = some ⟨g, 0, none⟩ := by
  obtain ⟨g', c', e, _⟩ := h.cell hi
  injection e with e _ _
  exact ⟨g', e⟩
end
theorem any_take {l : RL} {i : Nat} {r : Int × Int} (f : Int × Int → Bool) (h : l[i]? = some r) : (l.take (i + 1)).any f = ((l.take i).any f || f r) := by
  rw [List.take_add_one, h, List.any_append]
  simp
theorem any_true {l : RL} {i : Nat} {r : Int × Int} (f : Int × Int → Bool) (h : l[i]? = some r) (hr : f r = true) : l.any f = true := List.any_eq_true.2 ⟨r, List.mem_of_getElem? h, hr⟩
theorem fold_take {β : Type} {l : RL} {i : Nat} {r : Int × Int} (f : β → Int × Int → β) (b : β) (h : l[i]? = some r) : (l.take (i + 1)).foldl f b = f ((l.take i).foldl f b) r := by
  rw [List.take_add_one, h, List.foldl_append]
  rfl
set_option maxHeartbeats 1000000 in
set_option maxRecDepth 100000 in
theorem rhas_any (base : Nat) (v : Value) (l : RL) (w : World) (hl : OwnL w base v l) (hn : l.length ≤ 2000000) (x : Int) :
    Calls Try.prog 36 #[v, .int .u64 x] w (SaysB (hasL l x) w) := by
  have HL := Lib.hid hl
  obtain ⟨A, c, rfl, hnc, hcm⟩ := hl.shape
  have hT : l.take l.length = l := List.take_length
  obtain ⟨n, hnl⟩ : ∃ n, l.length = n := ⟨_, rfl⟩
  have HN := Lib.hid hnl
  have HT := Lib.hid hT
  rw [hnl] at hnc hn
  rw [hnl] at HL HT ⊢
  clear hnl hT hl
  go_enter Try.func36, Try.ntmps36
  go_wp2
  go_loopg [5] n (fun kx s5 wr => ∃ (i : Nat), s5 = .int .i64 i ∧ i ≤ n ∧ n - i ≤ kx ∧ Below w.heap.size w wr ∧ hasL (l.take i) x = false)
  case atStart => exact ⟨0, rfl, Nat.zero_le _, by omega, Below.refl _ _, rfl⟩
  case round =>
    obtain ⟨i, rfl, hin, hk, hB, hF⟩ := hrel
    by_cases hlt : i < n
    · obtain ⟨r, hi⟩ : ∃ r, l[i]? = some r := ⟨_, List.getElem?_eq_getElem (by rw [HN.out]; exact hlt)⟩
      have hl2 := HL.out.below hB
      obtain ⟨g, rfl⟩ := hl2.at_ hi
      have he := hl2.el hi
      have he1 := he.1
      have he2 := he.2
      have hiz : (i : Int) < (n : Int) := by omega
      clear he hl2
      obtain ⟨a, b⟩ := r
      simp only at he1 he2
      by_cases h1 : a ≤ x
      · by_cases h2 : x < b
        · have hr : hasL l x = true := any_true _ hi (by simp [h1, h2])
          rw [hr]
          clear hi hF hr
          go_wp2
          go_ret
          exact ⟨rfl, hB⟩
        · have hr : hasL (l.take (i + 1)) x = false := by unfold hasL at hF ⊢; rw [any_take _ hi, hF]; simp; omega
          have HR := Lib.hid hr
          clear hi hF hr
          go_wp2
          go_roundg (n - (i + 1))
          case measure => omega
          case rel => exact ⟨i + 1, by simp, by omega, by omega, hB, HR.out⟩
      · have hr : hasL (l.take (i + 1)) x = false := by unfold hasL at hF ⊢; rw [any_take _ hi, hF]; simp; omega
        have HR := Lib.hid hr
        clear hi hF hr
        go_wp2
        go_roundg (n - (i + 1))
        case measure => omega
        case rel => exact ⟨i + 1, by simp, by omega, by omega, hB, HR.out⟩
    · rw [show i = n by omega, HT.out] at hF
      have HF := Lib.hid hF
      have hiz : ¬ (i : Int) < (n : Int) := by omega
      clear hF
      go_wp2
      go_ret
      exact ⟨by rw [HF.out]; rfl, hB⟩
set_option maxHeartbeats 1000000 in
set_option maxRecDepth 100000 in
theorem rsome_any (base : Nat) (v : Value) (l : RL) (w : World) (hl : OwnL w base v l) (hn : l.length ≤ 2000000) (lo hi : Int) :
    Calls Try.prog 22 #[v, .int .u64 lo, .int .u64 hi] w (SaysB (someL l lo hi) w) := by
  have HL := Lib.hid hl
  obtain ⟨A, c, rfl, hnc, hcm⟩ := hl.shape
  have hT : l.take l.length = l := List.take_length
  obtain ⟨n, hnl⟩ : ∃ n, l.length = n := ⟨_, rfl⟩
  have HN := Lib.hid hnl
  have HT := Lib.hid hT
  rw [hnl] at hnc hn
  rw [hnl] at HL HT ⊢
  clear hnl hT hl
  go_enter Try.func22, Try.ntmps22
  go_wp2
  go_loopg [7] n (fun kx s7 wr => ∃ (i : Nat), s7 = .int .i64 i ∧ i ≤ n ∧ n - i ≤ kx ∧ Below w.heap.size w wr ∧ someL (l.take i) lo hi = false)
  case atStart => exact ⟨0, rfl, Nat.zero_le _, by omega, Below.refl _ _, rfl⟩
  case round =>
    obtain ⟨i, rfl, hin, hk, hB, hF⟩ := hrel
    by_cases hlt : i < n
    · obtain ⟨r, hi2⟩ : ∃ r, l[i]? = some r := ⟨_, List.getElem?_eq_getElem (by rw [HN.out]; exact hlt)⟩
      have hl2 := HL.out.below hB
      obtain ⟨g, rfl⟩ := hl2.at_ hi2
      have he := hl2.el hi2
      have he1 := he.1
      have he2 := he.2
      have hiz : (i : Int) < (n : Int) := by omega
      clear he hl2
      obtain ⟨a, b⟩ := r
      simp only at he1 he2
      by_cases hmm : max a lo < min b hi
      · have hr : someL l lo hi = true := any_true _ hi2 (by simp; omega)
        rw [hr]
        clear hi2 hF hr
        rcases Int.lt_or_le a lo with h1 | h1 <;> rcases Int.lt_or_le hi b with h2 | h2
        · have h3 : lo < hi := by omega
          go_wp2
          go_region
          go_wp2
          go_ret
          exact ⟨rfl, hB.drew⟩
        · have h3 : lo < b := by omega
          go_wp2
          go_region
          go_wp2
          go_ret
          exact ⟨rfl, hB.drew⟩
        · have h3 : a < hi := by omega
          go_wp2
          go_region
          go_wp2
          go_ret
          exact ⟨rfl, hB.drew⟩
        · have h3 : a < b := by omega
          go_wp2
          go_region
          go_wp2
          go_ret
          exact ⟨rfl, hB.drew⟩
      · have hr : someL (l.take (i + 1)) lo hi = false := by unfold someL at hF ⊢; rw [any_take _ hi2, hF]; simp; omega
        have HR := Lib.hid hr
        clear hi2 hF hr
        rcases Int.lt_or_le a lo with h1 | h1 <;> rcases Int.lt_or_le hi b with h2 | h2
        · have h3 : ¬ lo < hi := by omega
          go_wp2
          go_region
          go_wp2
          go_roundg (n - (i + 1))
          case measure => omega
          case rel => exact ⟨i + 1, by simp, by omega, by omega, hB.drew, HR.out⟩
        · have h3 : ¬ lo < b := by omega
          go_wp2
          go_region
          go_wp2
          go_roundg (n - (i + 1))
          case measure => omega
          case rel => exact ⟨i + 1, by simp, by omega, by omega, hB.drew, HR.out⟩
        · have h3 : ¬ a < hi := by omega
          go_wp2
          go_region
          go_wp2
          go_roundg (n - (i + 1))
          case measure => omega
          case rel => exact ⟨i + 1, by simp, by omega, by omega, hB.drew, HR.out⟩
        · have h3 : ¬ a < b := by omega
          go_wp2
          go_region
          go_wp2
          go_roundg (n - (i + 1))
          case measure => omega
          case rel => exact ⟨i + 1, by simp, by omega, by omega, hB.drew, HR.out⟩
    · rw [show i = n by omega, HT.out] at hF
      have HF := Lib.hid hF
      have hiz : ¬ (i : Int) < (n : Int) := by omega
      clear hF
      go_wp2
      go_ret
      exact ⟨by rw [HF.out]; rfl, hB⟩
set_option maxHeartbeats 1000000 in
set_option maxRecDepth 100000 in
theorem rcount_any (base : Nat) (v : Value) (l : RL) (w : World) (hl : OwnL w base v l) (hn : l.length ≤ 2000000) (hg : Gd l) :
    Calls Try.prog 35 #[v] w (fun e w' => e = .returned (.int .u64 (cntL l)) ∧ Below w.heap.size w w') := by
  have HG := Lib.hid hg
  clear hg
  have HL := Lib.hid hl
  obtain ⟨A, c, rfl, hnc, hcm⟩ := hl.shape
  have hT : l.take l.length = l := List.take_length
  obtain ⟨n, hnl⟩ : ∃ n, l.length = n := ⟨_, rfl⟩
  have HN := Lib.hid hnl
  have HT := Lib.hid hT
  rw [hnl] at hnc hn
  rw [hnl] at HL HT ⊢
  clear hnl hT hl
  go_enter Try.func35, Try.ntmps35
  go_wp2
  go_loopg [3, 4] n (fun kx s3 s4 wr => ∃ (i : Nat), s3 = .int .u64 (cntL (l.take i)) ∧ s4 = .int .i64 i ∧ i ≤ n ∧ n - i ≤ kx ∧ Below w.heap.size w wr)
  case atStart => exact ⟨0, rfl, rfl, Nat.zero_le _, by omega, Below.refl _ _⟩
  case round =>
    obtain ⟨i, rfl, rfl, hin, hk, hB⟩ := hrel
    by_cases hlt : i < n
    · obtain ⟨r, hi⟩ : ∃ r, l[i]? = some r := ⟨_, List.getElem?_eq_getElem (by rw [HN.out]; exact hlt)⟩
      have hl2 := HL.out.below hB
      obtain ⟨g, rfl⟩ := hl2.at_ hi
      have he := hl2.el hi
      have he1 := he.1
      have he2 := he.2
      have hiz : (i : Int) < (n : Int) := by omega
      clear he hl2
      obtain ⟨a, b⟩ := r
      simp only at he1 he2
      have hct := cnt_take hi
      have hb1 := cnt_bound HG.out i
      have hb2 := cnt_bound HG.out (i + 1)
      have hok := HG.out.1 _ (List.mem_of_getElem? hi)
      unfold OkR at hok
      simp only at hok hct
      have hw1 : IntKind.u64.wrap (cntL (l.take i) + b) = cntL (l.take i) + b := by rw [IntKind.wrap_u64]; omega
      have hw2 : IntKind.u64.wrap (cntL (l.take i) + b - a) = cntL (l.take (i + 1)) := by rw [IntKind.wrap_u64]; omega
      clear hct hi hb1 hb2 hok
      generalize cntL (l.take i) = x at *
      generalize hy : cntL (l.take (i + 1)) = y at *
      have HY := Lib.hid hy
      clear hy
      go_wp2
      go_quiet (fail)
      go_wp2
      go_roundg (n - (i + 1))
      case measure => omega
      case rel => exact ⟨i + 1, by rw [HY.out], by simp, by omega, by omega, ⟨hB.os, hB.tape, hB.output, hB.size, hB.block⟩⟩
    · rw [show i = n by omega, HT.out]
      have hiz : ¬ (n : Int) < (n : Int) := by omega
      go_wp2
      go_ret
      exact ⟨rfl, hB⟩
def gapV2 (l : RL) (f to : Int) : Array Value := if to ≤ gapF l f then #[.agg #[.int .u64 0, .int .u64 0], .bool false] else #[.agg #[.int .u64 (gapF l f), .int .u64 (gapE l (gapF l f) to)], .bool true]
set_option maxHeartbeats 1000000 in
set_option maxRecDepth 100000 in
theorem rgap_any (base : Nat) (v : Value) (l : RL) (w : World) (hl : OwnL w base v l) (hn : l.length ≤ 2000000) (f to : Int) :
    Calls Try.prog 32 #[v, .int .u64 f, .int .u64 to] w (fun e w' => e = .returned (.tuple (gapV2 l f to)) ∧ Below w.heap.size w w') := by
  obtain ⟨w1, hw1⟩ : ∃ w1, w1 = w.alloc (.cells #[.int .u64 0, .int .u64 0] 41) := ⟨_, rfl⟩
  have hB0 : Below w.heap.size w w1 := by rw [hw1]; exact (Below.refl _ w).alloc (Nat.le_refl _) _
  have hA1 : At w1 w.heap.size 41 [.int .u64 0, .int .u64 0] := by rw [hw1]; exact At.new w _ _
  have HL1 := Lib.hid (hl.below hB0)
  have HL := Lib.hid hl
  obtain ⟨A, c, rfl, hnc, hcm⟩ := hl.shape
  have hT : l.take l.length = l := List.take_length
  obtain ⟨n, hnl⟩ : ∃ n, l.length = n := ⟨_, rfl⟩
  have HN := Lib.hid hnl
  have HT := Lib.hid hT
  rw [hnl] at hnc hn
  rw [hnl] at HL HT HL1 ⊢
  clear hnl hT hl
  have HB0 := Lib.hid hB0
  have HA1 := Lib.hid hA1
  have HW1 := Lib.hid hw1
  have d0 := hA1.cell 0
  have d1 := hA1.cell 1
  have f0 := hA1.frozen 0
  have f1 := hA1.frozen 1
  simp at d0 d1
  clear hB0 hA1 hw1
  have hgf : ∀ F : Int, to ≤ F → gapF l f = F → gapV2 l f to = #[.agg #[.int .u64 0, .int .u64 0], .bool false] := fun F h1 h2 => by
    unfold gapV2
    rw [h2, if_pos h1]
  have hgt : ∀ F : Int, ¬ to ≤ F → gapF l f = F → gapV2 l f to = #[.agg #[.int .u64 F, .int .u64 (gapE l F to)], .bool true] := fun F h1 h2 => by
    unfold gapV2
    rw [h2, if_neg h1]
  have HGF := Lib.hid hgf
  have HGT := Lib.hid hgt
  clear hgf hgt
  go_enter Try.func32, Try.ntmps32
  go_wp2
  rw [← HW1.out]
  go_loopg [1, 8] n (fun kx s1 s8 wr => ∃ (i : Nat), s1 = .int .u64 (gapF (l.take i) f) ∧ s8 = .int .i64 i ∧ i ≤ n ∧ n - i ≤ kx ∧ wr = w1)
  case atStart => exact ⟨0, rfl, rfl, Nat.zero_le _, by omega, rfl⟩
  case round =>
    obtain ⟨i, rfl, rfl, hin, hk, rfl⟩ := hrel
    by_cases hlt : i < n
    · obtain ⟨r, hi⟩ : ∃ r, l[i]? = some r := ⟨_, List.getElem?_eq_getElem (by rw [HN.out]; exact hlt)⟩
      have hl2 := HL1.out
      obtain ⟨g, rfl⟩ := hl2.at_ hi
      have he := hl2.el hi
      have he1 := he.1
      have he2 := he.2
      have hiz : (i : Int) < (n : Int) := by omega
      clear he hl2
      obtain ⟨a, b⟩ := r
      simp only at he1 he2
      have hst : gapF (l.take (i + 1)) f = if a ≤ gapF (l.take i) f ∧ gapF (l.take i) f < b then b else gapF (l.take i) f := fold_take _ f hi
      have HST := Lib.hid hst
      clear hi hst
      generalize gapF (l.take i) f = x at *
      by_cases h1 : a ≤ x
      · by_cases h2 : x < b
        · go_wp2
          go_roundg (n - (i + 1))
          case measure => omega
          case rel => exact ⟨i + 1, by rw [HST.out, if_pos ⟨h1, h2⟩], by simp, by omega, by omega, rfl⟩
        · go_wp2
          go_roundg (n - (i + 1))
          case measure => omega
          case rel => exact ⟨i + 1, by rw [HST.out, if_neg (by omega)], by simp, by omega, by omega, rfl⟩
      · go_wp2
        go_roundg (n - (i + 1))
        case measure => omega
        case rel => exact ⟨i + 1, by rw [HST.out, if_neg (by omega)], by simp, by omega, by omega, rfl⟩
    · rw [show i = n by omega, HT.out]
      have hiz : ¬ (n : Int) < (n : Int) := by omega
      clear hlt hk hin
      generalize hFF : gapF l f = F
      have HFF := Lib.hid hFF
      clear hFF
      by_cases hto : to ≤ F
      · go_wp2
        refine bodyPost_ret (results_cell_tmp 6 7 41 (by rfl) _ 41 _ _ _ (by rfl) (by rfl) ((HA1.out.set 0 _).set 1 _) Try.underlying41 rfl (by kernel_rfl)) rfl ?_
        exact ⟨by rw [HGF.out F hto HFF.out]; rfl, (HB0.out.setCell (Nat.le_refl _) _).setCell (Nat.le_refl _) _⟩
      · go_wp2
        go_loopg [9, 10] n (fun kx s9 s10 wr' => ∃ (i : Nat), s9 = .int .u64 (gapE (l.take i) F to) ∧ s10 = .int .i64 i ∧ i ≤ n ∧ n - i ≤ kx ∧ wr' = wr)
        case atStart => exact ⟨0, rfl, rfl, Nat.zero_le _, by omega, rfl⟩
        case round =>
          obtain ⟨i, rfl, rfl, hin, hk, rfl⟩ := hrel
          by_cases hlt : i < n
          · obtain ⟨r, hi⟩ : ∃ r, l[i]? = some r := ⟨_, List.getElem?_eq_getElem (by rw [HN.out]; exact hlt)⟩
            have hl2 := HL1.out
            obtain ⟨g, rfl⟩ := hl2.at_ hi
            have he := hl2.el hi
            have he1 := he.1
            have he2 := he.2
            have hiz : (i : Int) < (n : Int) := by omega
            clear he hl2
            obtain ⟨a, b⟩ := r
            simp only at he1 he2
            have hst : gapE (l.take (i + 1)) F to = if F < a then min (gapE (l.take i) F to) a else gapE (l.take i) F to := fold_take _ to hi
            have HST := Lib.hid hst
            clear hi hst
            generalize gapE (l.take i) F to = x at *
            by_cases h1 : F < a
            · rcases Int.lt_or_le a x with h2 | h2
              · go_wp2
                go_roundg (n - (i + 1))
                case measure => omega
                case rel => exact ⟨i + 1, by rw [HST.out, if_pos h1, Int.min_eq_right (Int.le_of_lt h2)], by simp, by omega, by omega, rfl⟩
              · go_wp2
                go_roundg (n - (i + 1))
                case measure => omega
                case rel => exact ⟨i + 1, by rw [HST.out, if_pos h1, Int.min_eq_left h2], by simp, by omega, by omega, rfl⟩
            · go_wp2
              go_roundg (n - (i + 1))
              case measure => omega
              case rel => exact ⟨i + 1, by rw [HST.out, if_neg (by omega)], by simp, by omega, by omega, rfl⟩
          · rw [show i = n by omega, HT.out]
            have hiz : ¬ (n : Int) < (n : Int) := by omega
            go_wp2
            refine bodyPost_ret (results_cell_tmp 6 7 41 (by rfl) _ 41 _ _ _ (by rfl) (by rfl) ((HA1.out.set 0 _).set 1 _) Try.underlying41 rfl (by kernel_rfl)) rfl ?_
            exact ⟨by rw [HGT.out F hto HFF.out]; rfl, (HB0.out.setCell (Nat.le_refl _) _).setCell (Nat.le_refl _) _⟩
theorem run_rng (W : World) (a b c d : Int) : (Op.equalIn 10000 41 (.agg #[.int .u64 a, .int .u64 b]) (.agg #[.int .u64 c, .int .u64 d])).run Try.prog W = .ok (a == c && b == d) W := by
  rw [show (10000 : Nat) = 9999 + 1 from rfl, run_equalIn_struct (P := Try.prog) W 9999 41 _ _ (by kernel_rfl) (by kernel_rfl)]
  simp only [Program.fieldsOf, Try.underlying41, Op.eqFields]
  go_simp
  by_cases h1 : a = c <;> by_cases h2 : b = d <;> simp [h1, h2]
theorem rng_guard : Try.prog.eqGuardType Try.prog.depth 41 = false := by kernel_rfl
set_option maxHeartbeats 1000000 in
set_option maxRecDepth 100000 in
theorem rsame_l (base1 base2 : Nat) (va vb : Value) (l : RL) (w : World) (hl : OwnL w base1 va l) (hn : l.length ≤ 2000000) (hl2 : OwnL w base2 vb l) : Calls Try.prog 15 #[va, vb] w (SaysB true w) := by
  have HM := Lib.hid hl2
  obtain ⟨A2, c2, rfl, hnc2, hcm2⟩ := hl2.shape
  clear hl2
  have hre := run_rng
  have hgd := rng_guard
  have HL := Lib.hid hl
  obtain ⟨A, c, rfl, hnc, hcm⟩ := hl.shape
  have hT : l.take l.length = l := List.take_length
  obtain ⟨n, hnl⟩ : ∃ n, l.length = n := ⟨_, rfl⟩
  have HN := Lib.hid hnl
  have HT := Lib.hid hT
  rw [hnl] at hnc hn hnc2
  rw [hnl] at HL HT HM ⊢
  clear hnl hT hl
  go_enter Try.func15, Try.ntmps15
  go_wp2
  go_loopg [5] n (fun kx s5 wr => ∃ (i : Nat), s5 = .int .i64 i ∧ i ≤ n ∧ n - i ≤ kx ∧ Below w.heap.size w wr)
  case atStart => exact ⟨0, rfl, Nat.zero_le _, by omega, Below.refl _ _⟩
  case round =>
    obtain ⟨i, rfl, hin, hk, hB⟩ := hrel
    by_cases hlt : i < n
    · obtain ⟨r, hi⟩ : ∃ r, l[i]? = some r := ⟨_, List.getElem?_eq_getElem (by rw [HN.out]; exact hlt)⟩
      have hl2 := HL.out.below hB
      obtain ⟨g, rfl⟩ := hl2.at_ hi
      have he := hl2.el hi
      have he1 := he.1
      have he2 := he.2
      have hiz : (i : Int) < (n : Int) := by omega
      clear he hl2
      obtain ⟨a, b⟩ := r
      simp only at he1 he2
      have hm2 := HM.out.below hB
      obtain ⟨g2, rfl⟩ := hm2.at_ hi
      have hf := hm2.el hi
      have hf1 := hf.1
      have hf2 := hf.2
      simp only at hf1 hf2
      clear hf hm2 hi
      go_wp2
      go_quiet (fail)
      go_wp2
      go_roundg (n - (i + 1))
      case measure => omega
      case rel => exact ⟨i + 1, by simp, by omega, by omega, ⟨hB.os, hB.tape, hB.output, hB.size, hB.block⟩⟩
    · have hiz : ¬ (i : Int) < (n : Int) := by omega
      go_wp2
      go_ret
      exact ⟨rfl, hB⟩
end Go.Proofs.Ytoooinjhcgpbgaa
