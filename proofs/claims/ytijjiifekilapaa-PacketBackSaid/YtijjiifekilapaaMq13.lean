/-
  The document's own Parse (narthexref5), whatever bytes.
-/
import Derived.Test.YtijjiifekilapaaHrp0
import Derived.Test.YtijjiifekilapaaHrp1
import Derived.Test.YtijjiifekilapaaHrp2
import Derived.IntWalk
import Derived.Test.YtijjiifekilapaaMq12
import Derived.Test.YtijjiifekilapaaMq2
import Derived.Deep.QuietTactic
import Derived.BigQuiet
namespace Go.Proofs.Ytijjiifekilapaa
section
set_option linter.unusedVariables false
set_option linter.unusedSimpArgs false
open Go.RowKit
theorem at_ldc_ {ops : Array Oper} {rest : List Oper} {a : Act} {w : World} {Q : Exit → Act → World → Prop} {dst : Option Tmp} {x : Operand} {t : TypeId} {pos : String} {after : Array Edge} {g : Option (Nat × Bool)} (h : wpList Try.prog ops Q (⟨dst, .load 27 x, t, pos, after, g⟩ :: rest) a w) : wpList Try.prog ops Q (⟨dst, .load 27 x, t, pos, after, g⟩ :: rest) a w := h
set_option maxRecDepth 100000 in
set_option maxHeartbeats 2000000 in
theorem rhsame_eq (P P' : Nat → Prop) (m : HN) (d d' : Sl) (tok : List Int) (w : World) (hf : HFits w P m d tok) (hf' : HFits w P' m d' tok) :
    Calls Try.prog 17 #[hdV m d, hdV m d'] w (FrPost (.bool true) w) := by
  have hB : Below w.heap.size w ((w.alloc (.cells (hdL m d).toArray 30)).alloc (.cells (hdL m d').toArray 30)) := ((Below.refl _ _).alloc (Nat.le_refl _) _).alloc (by simp) _
  have hG : At ((w.alloc (.cells (hdL m d).toArray 30)).alloc (.cells (hdL m d').toArray 30)) w.heap.size 30 (hdL m d) := (At.new w _ _).alloc _
  have hH : At ((w.alloc (.cells (hdL m d).toArray 30)).alloc (.cells (hdL m d').toArray 30)) (w.heap.size + 1) 30 (hdL m d') := At.new_ _ _ _ (by simp)
  have hf2 := hf.below hB
  have hf2' := hf'.below hB
  have t1 := run_text (P := Try.prog) (c := d.c) hf2.dt.rd.1 28 5 9 Try.underlying28 Try.underlying5 Try.underlying9
  have t2 := run_text (P := Try.prog) (c := d'.c) hf2'.dt.rd.1 28 5 9 Try.underlying28 Try.underlying5 Try.underlying9
  obtain ⟨TX, hTX⟩ : ∃ x, strOfNums tok = x := ⟨_, rfl⟩
  rw [hTX] at t1 t2
  have hTT : (TX == TX) = true := bb_refl TX
  obtain ⟨C, hC⟩ : ∃ C, m.t.l.map (Value.int .u8) = C := ⟨_, rfl⟩
  obtain ⟨D, hD⟩ : ∃ D, m.f.l.map (Value.int .u8) = D := ⟨_, rfl⟩
  have hCl : C.length = 8 := by rw [← hC]; rfl
  have hDl : D.length = 8 := by rw [← hD]; rfl
  have RC : ∀ W : World, (Op.equalIn 10000 27 (.agg C.toArray) (.agg C.toArray)).run Try.prog W = .ok true W := fun W => by
    have := run_n8' W m.t m.t; rw [n8B_refl, hC] at this; exact this
  have RD : ∀ W : World, (Op.equalIn 10000 27 (.agg D.toArray) (.agg D.toArray)).run Try.prog W = .ok true W := fun W => by
    have := run_n8' W m.f m.f; rw [n8B_refl, hD] at this; exact this
  have a1 := hd_to hG
  have a9 := hd_from hG
  have b1 := hd_to hH
  have b9 := hd_from hH
  rw [hC] at a1 b1
  rw [hD] at a9 b9
  obtain ⟨sp, hsp⟩ : ∃ x, m.s = x := ⟨_, rfl⟩
  obtain ⟨wd, hwd⟩ : ∃ x, m.w = x := ⟨_, rfl⟩
  obtain ⟨ph, hph⟩ : ∃ x, m.ph = x := ⟨_, rfl⟩
  obtain ⟨L, hL⟩ : ∃ L, hdL m d = L := ⟨_, rfl⟩
  obtain ⟨L', hL'⟩ : ∃ L, hdL m d' = L := ⟨_, rfl⟩
  have hfv : hdV m d = .agg L.toArray := by rw [← hL]; rfl
  have hfv' : hdV m d' = .agg L'.toArray := by rw [← hL']; rfl
  have l0 : L[0]? = some (.int .i64 m.s) := by rw [← hL]; rfl
  have l17 : L[17]? = some (.slice d.A d.n d.c) := by rw [← hL]; rfl
  have l18 : L[18]? = some (.int .i64 m.w) := by rw [← hL]; rfl
  have l19 : L[19]? = some (.bool m.ph) := by rw [← hL]; rfl
  have k0 : L'[0]? = some (.int .i64 m.s) := by rw [← hL']; rfl
  have k17 : L'[17]? = some (.slice d'.A d'.n d'.c) := by rw [← hL']; rfl
  have k18 : L'[18]? = some (.int .i64 m.w) := by rw [← hL']; rfl
  have k19 : L'[19]? = some (.bool m.ph) := by rw [← hL']; rfl
  rw [hL, hL'] at hB hG hH t1 t2 a1 a9 b1 b9
  rw [hfv, hfv']
  rw [hsp] at l0 k0
  rw [hwd] at l18 k18
  rw [hph] at l19 k19
  have a0 := (hG.cell 0).trans l0
  have b0 := (hH.cell 0).trans k0
  have a17 := (hG.cell 17).trans l17
  have b17 := (hH.cell 17).trans k17
  have a18 := (hG.cell 18).trans l18
  have b18 := (hH.cell 18).trans k18
  have a19 := (hG.cell 19).trans l19
  have b19 := (hH.cell 19).trans k19
  have HB := Lib.hid hB
  have HCl := Lib.hid hCl
  have HDl := Lib.hid hDl
  clear hB hG hH hf2 hf2' hf hf' hTX hC hD hCl hDl hsp hwd hph hfv hfv' hL hL' l0 l17 l18 l19 k0 k17 k18 k19
  obtain ⟨xA, xn, xc⟩ := d
  obtain ⟨yA, yn, yc⟩ := d'
  simp only at a17 b17 t1 t2
  go_enter Try.func17, Try.ntmps17
  go_wp2_with (first
    | ((with_reducible refine at_ldc_ (x := .tmp 11) ?_); refine ld_off_g w.heap.size 1 C _ (by rfl) (by rfl) a1 Try.underlying27 rfl (by rw [HCl.out]; exact cid_info) ?_)
    | ((with_reducible refine at_ldc_ (x := .tmp 13) ?_); refine ld_off_g (w.heap.size + 1) 1 C _ (by rfl) (by rfl) b1 Try.underlying27 rfl (by rw [HCl.out]; exact cid_info) ?_)
    | ((with_reducible refine at_ldc_ (x := .tmp 18) ?_); refine ld_off_g w.heap.size 9 D _ (by rfl) (by rfl) a9 Try.underlying27 rfl (by rw [HDl.out]; exact cid_info) ?_)
    | ((with_reducible refine at_ldc_ (x := .tmp 20) ?_); refine ld_off_g (w.heap.size + 1) 9 D _ (by rfl) (by rfl) b9 Try.underlying27 rfl (by rw [HDl.out]; exact cid_info) ?_)
    | fail)
  go_ret
  exact ⟨by simp, HB.out⟩
end
section
set_option linter.unusedVariables false
open Go.RowKit
def pW (k : Int) : Int := min (max k 1) 4
theorem pW_four (k : Int) : pW k = 1 ∨ pW k = 2 ∨ pW k = 3 ∨ pW k = 4 := by unfold pW; omega
def winS (k : Int) : Int := if pW k = 1 then 256 else if pW k = 2 then 65536 else if pW k = 3 then 16777216 else 4294967296
def cutS (n k : Int) : Int := n % winS k
def follS (l : Int) (has : Bool) : Int := if has = true then min l 4611686018427387903 + 1 else 0
def upS (next win c : Int) : Int :=
  if c + win / 2 ≤ next ∧ c < 4611686018427387904 - win then c + win else if next + win / 2 < c ∧ win ≤ c then c - win else c
def wholeS (l : Int) (has : Bool) (low k : Int) : Int :=
  upS (follS l has) (winS k) (follS l has - follS l has % winS k + low % winS k)
theorem low_8 (n : Int) : lowS n 8 = n % 256 := by simp [lowS]
theorem low_16 (n : Int) : lowS n 16 = n % 65536 := by simp [lowS]
theorem low_24 (n : Int) : lowS n 24 = n % 16777216 := by simp [lowS]
theorem low_32 (n : Int) : lowS n 32 = n % 4294967296 := by simp [lowS]
theorem pwithin_any (k : Int) (w : World) (h0 : -9223372036854775808 ≤ k) (h1 : k ≤ 9223372036854775807) :
    Calls Try.prog 62 #[.int .i64 k] w fun e w' => e = .returned (.int .i64 (pW k)) ∧ w = w' := by
  have hf : pW k = min (max k 1) 4 := rfl
  have H := Lib.hid hf; clear hf
  go_enter Try.func62, Try.ntmps62
  go_wp2
  all_goals
    go_ret
    exact ⟨ret_int (by rw [H.out]; omega), rfl⟩
theorem window_any (k : Int) (w : World) (h : k = 1 ∨ k = 2 ∨ k = 3 ∨ k = 4) :
    Calls Try.prog 70 #[.int .i64 k] w fun e w' => e = .returned (.int .u64 (winS k)) ∧ w = w' := by
  rcases h with rfl | rfl | rfl | rfl
  all_goals
    go_enter Try.func70, Try.ntmps70
    go_wp2
    go_ret
    exact ⟨ret_int (by decide), rfl⟩
theorem follower_any (l : Int) (has : Bool) (w : World) (h0 : 0 ≤ l) (h1 : l < 18446744073709551616) :
    Calls Try.prog 69 #[.int .u64 l, .bool has] w fun e w' => e = .returned (.int .u64 (follS l has)) ∧ w = w' := by
  cases has
  · go_enter Try.func69, Try.ntmps69
    go_wp2
    go_ret
    exact ⟨rfl, rfl⟩
  · have hf : follS l true = min l 4611686018427387903 + 1 := rfl
    have H := Lib.hid hf; clear hf
    go_enter Try.func69, Try.ntmps69
    go_wp2
    all_goals
      go_ret
      exact ⟨ret_int (by rw [H.out]; omega), rfl⟩
theorem pcut_any (n k : Int) (w : World) (h0 : 0 ≤ n) (h1 : n < 18446744073709551616) (hk0 : -9223372036854775808 ≤ k) (hk1 : k ≤ 9223372036854775807) :
    Calls Try.prog 34 #[.int .u64 n, .int .i64 k] w fun e w' => e = .returned (.int .u32 (cutS n k)) ∧ w = w' := by
  obtain ⟨p, hp⟩ : ∃ p, pW k = p := ⟨_, rfl⟩
  have h4 := pW_four k
  have hf : cutS n k = n % winS k := rfl
  unfold winS at hf
  rw [hp] at h4 hf
  have HP := Lib.hid hp; clear hp
  have e1 := low_8 n
  have e2 := low_16 n
  have e3 := low_24 n
  have e4 := low_32 n
  rcases h4 with rfl | rfl | rfl | rfl
  all_goals
    simp only [reduceIte, Int.reduceEq] at hf
    have H := Lib.hid hf; clear hf
    go_enter Try.func34, Try.ntmps34
    go_wp2_with (first
      | (go_at_call 62; refine (pwithin_any _ _ (by omega) (by omega)).mono ?_; rintro e w' ⟨rfl, rfl⟩; rw [HP.out])
      | (go_at_call 61; refine (low_any _ _ _ (by omega) (by omega) (by omega) (by omega)).mono ?_; rintro e w' ⟨rfl, rfl⟩))
    go_ret
    exact ⟨ret_int (by rw [H.out]), rfl⟩
end
section
set_option linter.unusedVariables false
open Go.RowKit
theorem win_vals : winS 1 = 256 ∧ winS 2 = 65536 ∧ winS 3 = 16777216 ∧ winS 4 = 4294967296 := by decide
set_option maxRecDepth 100000 in
theorem whole_any (l : Int) (has : Bool) (low k : Int) (w : World) (h0 : 0 ≤ l) (h1 : l < 18446744073709551616) (hl0 : 0 ≤ low) (hl1 : low < 4294967296) (hk0 : -9223372036854775808 ≤ k) (hk1 : k ≤ 9223372036854775807) :
    Calls Try.prog 39 #[.int .u64 l, .bool has, .int .u32 low, .int .i64 k] w fun e w' => e = .returned (.int .u64 (wholeS l has low k)) ∧ w = w' := by
  obtain ⟨p, hp⟩ : ∃ p, pW k = p := ⟨_, rfl⟩
  have h4 := pW_four k
  have hn : 0 ≤ follS l has ∧ follS l has ≤ 4611686018427387904 := by unfold follS; split <;> omega
  have hf : wholeS l has low k = upS (follS l has) (winS k) (follS l has - follS l has % winS k + low % winS k) := rfl
  have hw : winS k = winS p := by unfold winS; rw [hp]; unfold pW at hp ⊢; rw [show min (max p 1) 4 = p by omega]
  obtain ⟨next, hnx⟩ : ∃ n, follS l has = n := ⟨_, rfl⟩
  rw [hnx] at hn hf
  obtain ⟨hn0, hn1⟩ := hn
  rw [hp] at h4
  rw [hw] at hf
  have HP := Lib.hid hp; clear hp hw
  have HN := Lib.hid hnx; clear hnx
  have e1 := low_8
  have e2 := low_16
  have e3 := low_24
  have e4 := low_32
  have f1 := win_vals.1
  have f2 := win_vals.2.1
  have f3 := win_vals.2.2.1
  have f4 := win_vals.2.2.2
  rcases h4 with rfl | rfl | rfl | rfl
  · rw [f1] at hf
    unfold upS at hf
    have H := Lib.hid hf; clear hf
    go_enter Try.func39, Try.ntmps39
    go_wp2_with (first
      | (go_at_call 62; refine (pwithin_any _ _ (by omega) (by omega)).mono ?_; rintro e w' ⟨rfl, rfl⟩; rw [HP.out])
      | (go_at_call 69; refine (follower_any _ _ _ (by omega) (by omega)).mono ?_; rintro e w' ⟨rfl, rfl⟩; rw [HN.out])
      | (go_at_call 70; refine (window_any _ _ (by omega)).mono ?_; rintro e w' ⟨rfl, rfl⟩)
      | (go_at_call 61; refine (low_any _ _ _ (by omega) (by omega) (by omega) (by omega)).mono ?_; rintro e w' ⟨rfl, rfl⟩))
    all_goals
      go_ret
      exact ⟨ret_int (by rw [H.out]; (repeat' split) <;> omega), rfl⟩
  · rw [f2] at hf
    unfold upS at hf
    have H := Lib.hid hf; clear hf
    go_enter Try.func39, Try.ntmps39
    go_wp2_with (first
      | (go_at_call 62; refine (pwithin_any _ _ (by omega) (by omega)).mono ?_; rintro e w' ⟨rfl, rfl⟩; rw [HP.out])
      | (go_at_call 69; refine (follower_any _ _ _ (by omega) (by omega)).mono ?_; rintro e w' ⟨rfl, rfl⟩; rw [HN.out])
      | (go_at_call 70; refine (window_any _ _ (by omega)).mono ?_; rintro e w' ⟨rfl, rfl⟩)
      | (go_at_call 61; refine (low_any _ _ _ (by omega) (by omega) (by omega) (by omega)).mono ?_; rintro e w' ⟨rfl, rfl⟩))
    all_goals
      go_ret
      exact ⟨ret_int (by rw [H.out]; (repeat' split) <;> omega), rfl⟩
  · rw [f3] at hf
    unfold upS at hf
    have H := Lib.hid hf; clear hf
    go_enter Try.func39, Try.ntmps39
    go_wp2_with (first
      | (go_at_call 62; refine (pwithin_any _ _ (by omega) (by omega)).mono ?_; rintro e w' ⟨rfl, rfl⟩; rw [HP.out])
      | (go_at_call 69; refine (follower_any _ _ _ (by omega) (by omega)).mono ?_; rintro e w' ⟨rfl, rfl⟩; rw [HN.out])
      | (go_at_call 70; refine (window_any _ _ (by omega)).mono ?_; rintro e w' ⟨rfl, rfl⟩)
      | (go_at_call 61; refine (low_any _ _ _ (by omega) (by omega) (by omega) (by omega)).mono ?_; rintro e w' ⟨rfl, rfl⟩))
    all_goals
      go_ret
      exact ⟨ret_int (by rw [H.out]; (repeat' split) <;> omega), rfl⟩
  · rw [f4] at hf
    unfold upS at hf
    have H := Lib.hid hf; clear hf
    go_enter Try.func39, Try.ntmps39
    go_wp2_with (first
      | (go_at_call 62; refine (pwithin_any _ _ (by omega) (by omega)).mono ?_; rintro e w' ⟨rfl, rfl⟩; rw [HP.out])
      | (go_at_call 69; refine (follower_any _ _ _ (by omega) (by omega)).mono ?_; rintro e w' ⟨rfl, rfl⟩; rw [HN.out])
      | (go_at_call 70; refine (window_any _ _ (by omega)).mono ?_; rintro e w' ⟨rfl, rfl⟩)
      | (go_at_call 61; refine (low_any _ _ _ (by omega) (by omega) (by omega) (by omega)).mono ?_; rintro e w' ⟨rfl, rfl⟩))
    all_goals
      go_ret
      exact ⟨ret_int (by rw [H.out]; (repeat' split) <;> omega), rfl⟩
end
end Go.Proofs.Ytijjiifekilapaa
