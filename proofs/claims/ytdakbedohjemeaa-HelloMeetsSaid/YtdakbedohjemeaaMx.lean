/-
  What package mix and the document's own (narthexref7) answer: End, Next, Keyed, Sum, Number.
-/
import Derived.Test.YtdakbedohjemeaaRefInts
import Derived.Test.YtdakbedohjemeaaMq3
namespace Go.Proofs.Ytdakbedohjemeaa
set_option linter.unusedVariables false
open Go.RowKit
theorem xor_bd (a b : Int) : 0 ≤ bits BinOp.xor IntKind.u64 a b ∧ bits BinOp.xor IntKind.u64 a b < 18446744073709551616 := ⟨bits_lo_u64 _ _ _, by have := bits_hi_u64 BinOp.xor a b; omega⟩
theorem u64_wrap_bd (x : Int) : 0 ≤ IntKind.u64.wrap x ∧ IntKind.u64.wrap x < 18446744073709551616 := by rw [IntKind.wrap_u64]; omega
def endM (h : Int) : Int := IntKind.u64.wrap (bits BinOp.xor IntKind.u64 h (h / 536870912) * 13787848793156543929)
def endS (h : Int) : Int := bits BinOp.xor IntKind.u64 (endM h) (endM h / 4294967296)
theorem endS_bd (h : Int) : 0 ≤ endS h ∧ endS h < 18446744073709551616 := xor_bd _ _
def mixM (h x : Int) : Int := IntKind.u64.wrap (bits BinOp.xor IntKind.u64 h x * 1099511628211)
def mixS (h x : Int) : Int := rotS (mixM h x) 23
theorem mixM_bd (h x : Int) : 0 ≤ mixM h x ∧ mixM h x < 18446744073709551616 := u64_wrap_bd _
theorem mixS_bd (h x : Int) : 0 ≤ mixS h x ∧ mixS h x < 18446744073709551616 := rotS_bd _ 23 (mixM_bd h x).1 (mixM_bd h x).2 (by omega)
def seedS (key : Int) (n : Nat) : Int := IntKind.u64.wrap (bits BinOp.xor IntKind.u64 key 11400714819323198485 + n)
def rowS (key : Int) (bs : List Int) (k : Nat) : Int := (bs.take k).foldl mixS (seedS key bs.length)
def keyedS (key : Int) (bs : List Int) : Int := endS (rowS key bs bs.length)
theorem rowS_zero (key : Int) (bs : List Int) : rowS key bs 0 = seedS key bs.length := by simp [rowS]
theorem rowS_step (key : Int) (bs : List Int) (k : Nat) (hk : k < bs.length) : rowS key bs (k + 1) = mixS (rowS key bs k) (bs.getD k 0) := by
  unfold rowS
  rw [List.take_succ_eq_append_getElem hk, List.foldl_append, List.getD_eq_getElem?_getD, List.getElem?_eq_getElem hk]
  rfl
theorem rowS_bd (key : Int) (bs : List Int) (k : Nat) : 0 ≤ rowS key bs k ∧ rowS key bs k < 18446744073709551616 := by
  unfold rowS
  generalize bs.take k = l
  have : ∀ (l : List Int) (h : Int), 0 ≤ h ∧ h < 18446744073709551616 → 0 ≤ l.foldl mixS h ∧ l.foldl mixS h < 18446744073709551616 := by
    intro l
    induction l with
    | nil => intro h hh; exact hh
    | cons x l ih => intro h _; exact ih _ (mixS_bd h x)
  exact this l _ (u64_wrap_bd _)
theorem end_any (h : Int) (w : World) (h0 : 0 ≤ h) (h1 : h < 18446744073709551616) : Calls Try.prog 77 #[.int .u64 h] w fun e w' => e = .returned (.int .u64 (endS h)) ∧ w = w' := by
  go_enter Try.func77, Try.ntmps77
  go_wp2
  go_ret
  exact ⟨rfl, rfl⟩
theorem rend_any (h : Int) (w : World) (h0 : 0 ≤ h) (h1 : h < 18446744073709551616) : Calls Try.prog 65 #[.int .u64 h] w fun e w' => e = .returned (.int .u64 (endS h)) ∧ w = w' := by
  go_enter Try.func65, Try.ntmps65
  go_wp2
  go_ret
  exact ⟨rfl, rfl⟩
set_option maxRecDepth 100000 in
theorem keyed_any (key : Int) (A : Option Addr) (n c : Nat) (bs : List Int) (w : World) (B : Nat) (hr : Rd w B A n bs) (hn : n ≤ c) (hc : c ≤ maxLen) (k0 : 0 ≤ key) (k1 : key < 18446744073709551616) :
    Calls Try.prog 60 #[.int .u64 key, .slice A n c] w fun e w' => e = .returned (.int .u64 (keyedS key bs)) ∧ w = w' := by
  unfold maxLen at hc
  have hL := hr.1
  have hz : rowS key bs 0 = IntKind.u64.wrap (bits BinOp.xor IntKind.u64 key 11400714819323198485 + n) := by rw [rowS_zero, hL]; rfl
  have hst := rowS_step key bs
  have hbd := rowS_bd key bs
  have hfin : keyedS key bs = endS (rowS key bs n) := by rw [← hL]; rfl
  have hby := hr.2.1
  have hcell := hr.2.2
  rw [hL] at hst
  have Z := Lib.hid hz
  have ST := Lib.hid hst
  have BD := Lib.hid hbd
  have F := Lib.hid hfin
  have HC := Lib.hid hcell
  clear hz hst hbd hfin hcell hL hr
  go_enter Try.func60, Try.ntmps60
  go_wp2_with fail
  go_loop [5, 16] (fun h i => ∃ k : Nat, k ≤ n ∧ i = .int .i64 k ∧ h = .int .u64 (rowS key bs k)) (fun _ i => n - (intOf i).toNat)
  case atStart => exact ⟨0, Nat.zero_le _, rfl, by rw [Z.out]⟩
  case round =>
    obtain ⟨k, hk, rfl, rfl⟩ := hrel
    have hh := BD.out k
    by_cases hlt : k < n
    · obtain ⟨b, off, rfl, hb, hcell⟩ := HC.out (by omega)
      have c1 := hcell k hlt
      have hy := hby.getD k
      have hs := ST.out k hlt
      have hb1 := mixM_bd (rowS key bs k) (bs.getD k 0)
      have hb2 : mixS (rowS key bs k) (bs.getD k 0) = rotS (mixM (rowS key bs k) (bs.getD k 0)) 23 := rfl
      have hb3 : mixM (rowS key bs k) (bs.getD k 0) = IntKind.u64.wrap (bits BinOp.xor IntKind.u64 (rowS key bs k) (bs.getD k 0) * 1099511628211) := rfl
      rw [hb2] at hs
      obtain ⟨M, hM⟩ : ∃ M, mixM (rowS key bs k) (bs.getD k 0) = M := ⟨_, rfl⟩
      rw [hM] at hb1 hb3 hs
      clear hb2 hM
      obtain ⟨y, hy0⟩ : ∃ y, bs.getD k 0 = y := ⟨_, rfl⟩
      rw [hy0] at c1 hy hb3
      obtain ⟨H, hH⟩ : ∃ H, rowS key bs k = H := ⟨_, rfl⟩
      rw [hH] at hb3 hh
      rw [hH]
      clear hy0 hcell hH
      obtain ⟨hy1, hy2⟩ := hy
      obtain ⟨hb11, hb12⟩ := hb1
      obtain ⟨hh1, hh2⟩ := hh
      have S := Lib.hid hs; clear hs
      have M3 := hb3.symm
      clear hb3
      go_wp2_with (go_at_call 76; refine (rot_any _ _ _ (by omega) (by omega)).mono ?_; rintro e w' ⟨rfl, rfl⟩)
      go_round
      case rel => exact ⟨k + 1, by omega, by go_num, by rw [S.out]⟩
      case measure => simp [intOf]; omega
    · obtain rfl : k = n := by omega
      have F2 := F.out
      obtain ⟨H, hH⟩ : ∃ H, rowS key bs k = H := ⟨_, rfl⟩
      rw [hH] at hh F2 ⊢
      obtain ⟨hh1, hh2⟩ := hh
      have F3 := Lib.hid F2
      clear hH F2
      go_wp2_with (go_at_call 77; refine (end_any _ _ (by omega) (by omega)).mono ?_; rintro e w' ⟨rfl, rfl⟩)
      go_ret
      exact ⟨ret_int (by rw [F3.out]), rfl⟩
set_option maxRecDepth 100000 in
theorem rkeyed_any (key : Int) (A : Option Addr) (n c : Nat) (bs : List Int) (w : World) (B : Nat) (hr : Rd w B A n bs) (hn : n ≤ c) (hc : c ≤ maxLen) (k0 : 0 ≤ key) (k1 : key < 18446744073709551616) :
    Calls Try.prog 45 #[.int .u64 key, .slice A n c] w fun e w' => e = .returned (.int .u64 (keyedS key bs)) ∧ w = w' := by
  unfold maxLen at hc
  have hL := hr.1
  have hz : rowS key bs 0 = IntKind.u64.wrap (bits BinOp.xor IntKind.u64 key 11400714819323198485 + n) := by rw [rowS_zero, hL]; rfl
  have hst := rowS_step key bs
  have hbd := rowS_bd key bs
  have hfin : keyedS key bs = endS (rowS key bs n) := by rw [← hL]; rfl
  have hby := hr.2.1
  have hcell := hr.2.2
  rw [hL] at hst
  have Z := Lib.hid hz
  have ST := Lib.hid hst
  have BD := Lib.hid hbd
  have F := Lib.hid hfin
  have HC := Lib.hid hcell
  clear hz hst hbd hfin hcell hL hr
  go_enter Try.func45, Try.ntmps45
  go_wp2_with fail
  go_loop [5, 6] (fun h i => ∃ k : Nat, k ≤ n ∧ i = .int .i64 k ∧ h = .int .u64 (rowS key bs k)) (fun _ i => n - (intOf i).toNat)
  case atStart => exact ⟨0, Nat.zero_le _, rfl, by rw [Z.out]⟩
  case round =>
    obtain ⟨k, hk, rfl, rfl⟩ := hrel
    have hh := BD.out k
    by_cases hlt : k < n
    · obtain ⟨b, off, rfl, hb, hcell⟩ := HC.out (by omega)
      have c1 := hcell k hlt
      have hy := hby.getD k
      have hs := ST.out k hlt
      have hb1 := mixM_bd (rowS key bs k) (bs.getD k 0)
      have hb2 : mixS (rowS key bs k) (bs.getD k 0) = rotS (mixM (rowS key bs k) (bs.getD k 0)) 23 := rfl
      have hb3 : mixM (rowS key bs k) (bs.getD k 0) = IntKind.u64.wrap (bits BinOp.xor IntKind.u64 (rowS key bs k) (bs.getD k 0) * 1099511628211) := rfl
      rw [hb2] at hs
      obtain ⟨M, hM⟩ : ∃ M, mixM (rowS key bs k) (bs.getD k 0) = M := ⟨_, rfl⟩
      rw [hM] at hb1 hb3 hs
      clear hb2 hM
      obtain ⟨y, hy0⟩ : ∃ y, bs.getD k 0 = y := ⟨_, rfl⟩
      rw [hy0] at c1 hy hb3
      obtain ⟨H, hH⟩ : ∃ H, rowS key bs k = H := ⟨_, rfl⟩
      rw [hH] at hb3 hh
      rw [hH]
      clear hy0 hcell hH
      obtain ⟨hy1, hy2⟩ := hy
      obtain ⟨hb11, hb12⟩ := hb1
      obtain ⟨hh1, hh2⟩ := hh
      have S := Lib.hid hs; clear hs
      have M3 := hb3.symm
      clear hb3
      go_wp2_with (go_at_call 64; refine (rrot_any _ _ _ (by omega) (by omega) (by omega) (by omega)).mono ?_; rintro e w' ⟨rfl, rfl⟩)
      go_round
      case rel => exact ⟨k + 1, by omega, by go_num, by rw [S.out]⟩
      case measure => simp [intOf]; omega
    · obtain rfl : k = n := by omega
      have F2 := F.out
      obtain ⟨H, hH⟩ : ∃ H, rowS key bs k = H := ⟨_, rfl⟩
      rw [hH] at hh F2 ⊢
      obtain ⟨hh1, hh2⟩ := hh
      have F3 := Lib.hid F2
      clear hH F2
      go_wp2_with (go_at_call 65; refine (rend_any _ _ (by omega) (by omega)).mono ?_; rintro e w' ⟨rfl, rfl⟩)
      go_ret
      exact ⟨ret_int (by rw [F3.out]), rfl⟩
end Go.Proofs.Ytdakbedohjemeaa
