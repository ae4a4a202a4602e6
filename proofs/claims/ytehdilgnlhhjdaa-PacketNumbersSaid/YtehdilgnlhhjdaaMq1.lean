/-
  Plain arithmetic for layer 1: what masks, shifts and turns of 64-bit numbers come to. No condition beyond those of each lemma. Imports nothing of the translation.
-/
import Derived.WalkKit
import Derived.Laws.BitsAllLaws
import Derived.Laws.Bits64b
import Derived.Laws.DeepNot64
import Derived.Test.YtehdilgnlhhjdaaProg
import Derived.ProofKit
import Derived.OpenShut
import Derived.Lib.Hide
import Derived.Outline
import Derived.WalkLawsBesides
import Derived.WalkSpells
import Derived.RegionTactic
import Derived.ChangeAlike
import Derived.Deep.QuietTactic
import Derived.BigQuiet
import Derived.Test.YtehdilgnlhhjdaaMq0
import Derived.Deep.Slices
import Derived.ChangeSlices
import Derived.Deep.RegionHeld3
import Derived.Laws.StructEq
import Derived.WideShapes
import Derived.OrdersHeld
namespace Go.Proofs.Ytehdilgnlhhjdaa
section
set_option linter.unusedVariables false
open Go.RowKit
theorem p64 : (2 : Int) ^ 64 = 18446744073709551616 := by decide
theorem wrapI (n : Int) : wrap64 n = (n + 9223372036854775808) % 18446744073709551616 - 9223372036854775808 := by unfold wrap64; rfl
theorem pow_pos' (s : Nat) : (0 : Int) < 2 ^ s := Int.pow_pos (by decide)
theorem pow_split {a b c : Nat} (h : a + b = c) : (2 : Int) ^ a * 2 ^ b = 2 ^ c := by rw [← Int.pow_add, h]
theorem pow_le64 {a : Nat} (h : a ≤ 63) : (2 : Int) ^ a ≤ 9223372036854775808 := by
  have h1 : (2 : Nat) ^ a ≤ 2 ^ 63 := Nat.pow_le_pow_right (by decide) h
  have h2 : ((2 : Int) ^ a) = ((2 ^ a : Nat) : Int) := by simp
  rw [h2]; omega

def lowS (n k : Int) : Int := if k < 1 then 0 else if 63 < k then n else n % 2 ^ k.toNat
def rotS (n : Int) (s : Nat) : Int := n * 2 ^ s % 18446744073709551616 + n / 2 ^ (64 - s)
theorem low_and (n : Int) (K : Nat) (h0 : 0 ≤ n) (h1 : n < 18446744073709551616) (hK : K ≤ 63) :
    bits BinOp.and IntKind.u64 n (IntKind.u64.wrap (IntKind.u64.wrap (2 ^ K) - 1)) = n % 2 ^ K := by
  have hp := pow_pos' K
  have hl := pow_le64 hK
  have e1 : IntKind.u64.wrap ((2 : Int) ^ K) = 2 ^ K := by rw [IntKind.wrap_u64]; omega
  have e2 : IntKind.u64.wrap ((2 : Int) ^ K - 1) = 2 ^ K - 1 := by rw [IntKind.wrap_u64]; omega
  rw [e1, e2, u64_and _ _ h0 h1 (by omega) (by omega)]
  have e3 : ((2 : Int) ^ K - 1).toNat = 2 ^ K - 1 := by
    have : ((2 : Int) ^ K) = ((2 ^ K : Nat) : Int) := by simp
    omega
  rw [e3, Nat.and_two_pow_sub_one_eq_mod]
  obtain ⟨m, rfl⟩ := Int.eq_ofNat_of_zero_le h0
  simp

theorem rot_or (n : Int) (s : Nat) (h0 : 0 ≤ n) (h1 : n < 18446744073709551616) (hs : s ≤ 63) :
    bits BinOp.or IntKind.u64 (IntKind.u64.wrap (n * 2 ^ s)) (n / 2 ^ (64 - s)) = rotS n s := by
  have hS := pow_pos' s
  have hM := pow_pos' (64 - s)
  have hSM : (2 : Int) ^ s * 2 ^ (64 - s) = 18446744073709551616 := by rw [pow_split (c := 64) (by omega), p64]
  have q0 : 0 ≤ n / 2 ^ (64 - s) := Int.ediv_nonneg h0 (by omega)
  have q1 : n / 2 ^ (64 - s) < 2 ^ s := by
    apply Int.ediv_lt_of_lt_mul hM; rw [hSM]; exact h1
  have l := pow_le64 hs
  have e : n * 2 ^ s % 18446744073709551616 = 2 ^ s * (n % 2 ^ (64 - s)) := by
    rw [← hSM, Int.mul_comm n, Int.mul_emod_mul_of_pos _ _ hS]
  unfold rotS
  rw [IntKind.wrap_u64]
  have b0 : 0 ≤ n * 2 ^ s % 18446744073709551616 := Int.emod_nonneg _ (by decide)
  have b1 : n * 2 ^ s % 18446744073709551616 < 18446744073709551616 := Int.emod_lt_of_pos _ (by decide)
  rw [u64_or _ _ b0 b1 q0 (by omega)]
  have hm : (n * 2 ^ s % 18446744073709551616).toNat % 2 ^ s = 0 := by
    rw [e]
    obtain ⟨r, hr⟩ := Int.eq_ofNat_of_zero_le (Int.emod_nonneg n (b := 2 ^ (64 - s)) (by omega))
    rw [hr]
    have : ((2 : Int) ^ s * (r : Int)).toNat = 2 ^ s * r := by
      have : ((2 : Int) ^ s * (r : Int)) = ((2 ^ s * r : Nat) : Int) := by simp
      rw [this, Int.toNat_natCast]
    rw [this, Nat.mul_mod_right]
  have hq : (n / 2 ^ (64 - s)).toNat < 2 ^ s := by
    have : ((2 : Int) ^ s) = ((2 ^ s : Nat) : Int) := by simp
    omega
  rw [nat_join s _ _ hm hq]
  omega

theorem rotS_bd (n : Int) (s : Nat) (h0 : 0 ≤ n) (h1 : n < 18446744073709551616) (hs : s ≤ 63) : 0 ≤ rotS n s ∧ rotS n s < 18446744073709551616 := by
  have hS := pow_pos' s
  have hM := pow_pos' (64 - s)
  have hSM : (2 : Int) ^ s * 2 ^ (64 - s) = 18446744073709551616 := by rw [pow_split (c := 64) (by omega), p64]
  have q0 : 0 ≤ n / 2 ^ (64 - s) := Int.ediv_nonneg h0 (by omega)
  have q1 : n / 2 ^ (64 - s) < 2 ^ s := by
    apply Int.ediv_lt_of_lt_mul hM; rw [hSM]; exact h1
  have e : n * 2 ^ s % 18446744073709551616 = 2 ^ s * (n % 2 ^ (64 - s)) := by
    rw [← hSM, Int.mul_comm n, Int.mul_emod_mul_of_pos _ _ hS]
  have r0 : 0 ≤ n % 2 ^ (64 - s) := Int.emod_nonneg _ (by omega)
  have r1 : n % 2 ^ (64 - s) < 2 ^ (64 - s) := Int.emod_lt_of_pos _ hM
  unfold rotS
  rw [e]
  have b0 : 0 ≤ 2 ^ s * (n % 2 ^ (64 - s)) := Int.mul_nonneg (by omega) r0
  have b1 : 2 ^ s * (n % 2 ^ (64 - s) + 1) ≤ 18446744073709551616 := by rw [← hSM]; exact Int.mul_le_mul_of_nonneg_left (by omega) (by omega)
  rw [Int.mul_add] at b1
  omega

end
section
set_option linter.unusedVariables false
open Go.RowKit
theorem low_any (n k : Int) (w : World) (h0 : 0 ≤ n) (h1 : n < 18446744073709551616) (hk : k ≤ 9223372036854775807) (hk0 : -9223372036854775808 ≤ k) :
    Calls Try.prog 61 #[.int .u64 n, .int .i64 k] w fun e w' => e = .returned (.int .u64 (lowS n k)) ∧ w = w' := by
  rcases Int.lt_or_le k 1 with h | h
  · go_enter Try.func61, Try.ntmps61
    go_wp2
    go_ret
    exact ⟨by simp [lowS, h], rfl⟩
  · rcases Int.lt_or_le 63 k with h2 | h2
    · go_enter Try.func61, Try.ntmps61
      go_wp2
      go_ret
      exact ⟨by simp [lowS, Int.not_lt.2 h, h2], rfl⟩
    · have hfin := low_and n k.toNat h0 h1 (by omega)
      have H := Lib.hid hfin; clear hfin
      go_enter Try.func61, Try.ntmps61
      go_wp2
      go_ret
      exact ⟨by simp [lowS, Int.not_lt.2 h, Int.not_lt.2 h2, H.out], rfl⟩
theorem ret_int {k : IntKind} {a b : Int} (h : a = b) : Ending.returned (.int k a) = .returned (.int k b) := by rw [h]
theorem rot_any (n k : Int) (w : World) (h0 : 0 ≤ n) (h1 : n < 18446744073709551616) :
    Calls Try.prog 80 #[.int .u64 n, .int .i64 k] w fun e w' => e = .returned (.int .u64 (rotS n (k % 64).toNat)) ∧ w = w' := by
  obtain ⟨l, hl, hl63, hlk⟩ : ∃ l : Nat, bits BinOp.and IntKind.u64 (IntKind.u64.wrap k) 63 = (l : Int) ∧ (l : Int) ≤ 63 ∧ (k % 64).toNat = l := by
    refine ⟨(k % 64).toNat, ?_, by omega, rfl⟩
    rw [IntKind.wrap_u64, u64_and _ _ (by omega) (by omega) (by omega) (by omega), show (63 : Int).toNat = 63 by decide, nat_mask6]
    omega
  have hfin := rot_or n l h0 h1 (by omega)
  rw [hlk]
  have H := Lib.hid hfin; clear hfin hlk
  go_enter Try.func80, Try.ntmps80
  go_wp2
  go_ret
  exact ⟨by simp [H.out], rfl⟩
end
section
set_option linter.unusedVariables false
open Go.RowKit
/-- A row of bytes that came in: what the walk needs of it. -/
def InRow (w : World) (A : Option Addr) (n c : Nat) (bs : List Int) : Prop := Rd w w.heap.size A n bs ∧ n ≤ c ∧ c ≤ maxLen ∧ (A = none → c = 0)
theorem cell_lt {w : World} {b off : Nat} {v : Value} (h : w.cell? ⟨b, off, none⟩ = some v) : b < w.heap.size := by
  rcases Nat.lt_or_ge b w.heap.size with hlt | hge
  · exact hlt
  · have e : w.heap[b]? = none := Array.getElem?_eq_none hge
    simp [World.cell?, e] at h
theorem inRow_nil (w : World) (n c : Nat) (hn : n = 0) (hc : c = 0) : InRow w none n c [] := by
  subst hn; subst hc
  exact ⟨Rd.none_ _ _ _, Nat.le_refl _, by unfold maxLen; omega, fun _ => rfl⟩
theorem inRow_some {w : World} {x : Addr} {len cap : Nat} {zs : List Int} (hl : len ≤ cap) (hm : cap ≤ maxLen) (hz : zs.length = cap)
    (hcell : ∀ i, i < zs.length → w.cell? (x.add i) = some (.int .u8 (zs.getD i 0))) (hw : ∀ n ∈ zs, (Lit.int .u8 n).wf = true) : InRow w (some x) len cap (zs.take len) := by
  refine ⟨⟨by rw [List.length_take]; omega, fun y hy => ?_, fun hp => ?_⟩, hl, hm, fun h => by cases h⟩
  · have := bounds_u8 (hw y (List.mem_of_mem_take hy))
    omega
  · obtain ⟨b, off, spot⟩ := x
    have h0 := hcell 0 (by omega)
    have hs : spot = none := by simpa [Addr.add] using World.cell?_spot h0
    subst hs
    have h1 := hcell 0 (by omega)
    rw [addr_add] at h1
    refine ⟨b, off, rfl, cell_lt h1, fun i hi => ?_⟩
    have h2 := hcell i (by omega)
    rw [addr_add] at h2
    rw [h2, List.getD_eq_getElem?_getD, List.getD_eq_getElem?_getD, List.getElem?_take_of_lt hi]
end
section
set_option linter.unusedVariables false
open Go.RowKit Go.ChangeShapes Go.WideShapes Go.Deep
section
variable {H : Type} {enc : TypeId × Value → H} {P : Program} {w : World}
/-- What a reading of a row of bytes says in the words of the walks. -/
theorem inRow_of_trod {t e : TypeId} {fuel : Nat} {cs : List Value} {x : DataW H × List MemPlace} (ht : P.underlying t = some (.slice e)) (he : P.underlying e = some (.int .u8)) (hc : P.cellsOf e = 1)
    (h : DataW.trod enc P w 0 (fun _ => true) true fuel t cs = some x) : ∃ A len cap bs, cs = [.slice A len cap] ∧ InRow w A len cap bs := by
  rcases open_ints ht he hc h with ⟨hcs, _⟩ | ⟨x, l, c, zs, hcs, _, hl, hm, hz, _, hcell, hwz⟩
  · exact ⟨none, 0, 0, [], hcs, inRow_nil w 0 0 rfl rfl⟩
  · exact ⟨_, _, _, _, hcs, inRow_some hl hm (by simpa using hz) hcell hwz⟩
end
end
section
set_option linter.unusedVariables false
open Go.RowKit Go.ChangeShapes Go.WideShapes Go.Deep
/-- Eight bytes. -/
structure N8 where
  a0 : Int
  a1 : Int
  a2 : Int
  a3 : Int
  a4 : Int
  a5 : Int
  a6 : Int
  a7 : Int
def N8.l (m : N8) : List Int := [m.a0, m.a1, m.a2, m.a3, m.a4, m.a5, m.a6, m.a7]
def N8.zero : N8 := ⟨0, 0, 0, 0, 0, 0, 0, 0⟩
def N8.of (l : List Int) : N8 := ⟨l.getD 0 0, l.getD 1 0, l.getD 2 0, l.getD 3 0, l.getD 4 0, l.getD 5 0, l.getD 6 0, l.getD 7 0⟩
def N8.v (m : N8) : Value := .agg #[.int .u8 m.a0, .int .u8 m.a1, .int .u8 m.a2, .int .u8 m.a3, .int .u8 m.a4, .int .u8 m.a5, .int .u8 m.a6, .int .u8 m.a7]
theorem N8.ext_ {x y : N8} (h : x.l = y.l) : x = y := by
  obtain ⟨a, b, c, d, e, f, g, i⟩ := x
  obtain ⟨a', b', c', d', e', f', g', i'⟩ := y
  simp only [N8.l, List.cons.injEq] at h
  obtain ⟨rfl, rfl, rfl, rfl, rfl, rfl, rfl, rfl, _⟩ := h
  rfl
theorem N8.of_l (m : N8) : N8.of m.l = m := rfl
theorem N8.l_of (l : List Int) (h : l.length = 8) : (N8.of l).l = l := by
  match l, h with
  | [a, b, c, d, e, f, g, i], _ => rfl
def n8B (m m' : N8) : Bool := m.a0 == m'.a0 && (m.a1 == m'.a1 && (m.a2 == m'.a2 && (m.a3 == m'.a3 && (m.a4 == m'.a4 && (m.a5 == m'.a5 && (m.a6 == m'.a6 && m.a7 == m'.a7))))))
theorem n8B_eq (m m' : N8) : n8B m m' = true ↔ m = m' := by
  obtain ⟨a, b, c, d, e, f, g, i⟩ := m
  obtain ⟨a', b', c', d', e', f', g', i'⟩ := m'
  simp [n8B]
theorem n8B_refl (m : N8) : n8B m m = true := (n8B_eq m m).2 rfl
theorem run_n8 (W : World) (m m' : N8) : (Op.equalIn 10000 27 m.v m'.v).run Try.prog W = .ok (n8B m m') W := by
  have hp : Try.prog.plainKey 5 = true := by kernel_rfl
  have hu : Try.prog.underlying 5 = some (.int .u8) := Try.underlying5
  have hc : Try.prog.cellsOf 5 = 1 := by kernel_rfl
  obtain ⟨i, hi⟩ : ∃ i, Try.prog.info? 5 = some i := by
    cases h : Try.prog.info? 5 with
    | some i => exact ⟨i, rfl⟩
    | none => exact absurd (show (Try.prog.info? 5).isSome = true by kernel_rfl) (by rw [h]; simp)
  unfold N8.v
  rw [show (10000 : Nat) = 9999 + 1 from rfl, run_equalIn_array W 9999 _ _ (n := 8) Try.underlying27 hi, hc, show (9999 : Nat) = 9998 + 1 from rfl]
  rw [show List.range 8 = [0, 1, 2, 3, 4, 5, 6, 7] from rfl]
  unfold n8B
  rw [step_items W _ .u8 hp hu 9998 1 _ _ 0 _ m.a0 m'.a0 rfl rfl]
  cases (m.a0 == m'.a0) <;> simp only [Bool.false_and, Bool.true_and, if_true, Bool.false_eq_true, if_false]
  rw [step_items W _ .u8 hp hu 9998 1 _ _ 1 _ m.a1 m'.a1 rfl rfl]
  cases (m.a1 == m'.a1) <;> simp only [Bool.false_and, Bool.true_and, if_true, Bool.false_eq_true, if_false]
  rw [step_items W _ .u8 hp hu 9998 1 _ _ 2 _ m.a2 m'.a2 rfl rfl]
  cases (m.a2 == m'.a2) <;> simp only [Bool.false_and, Bool.true_and, if_true, Bool.false_eq_true, if_false]
  rw [step_items W _ .u8 hp hu 9998 1 _ _ 3 _ m.a3 m'.a3 rfl rfl]
  cases (m.a3 == m'.a3) <;> simp only [Bool.false_and, Bool.true_and, if_true, Bool.false_eq_true, if_false]
  rw [step_items W _ .u8 hp hu 9998 1 _ _ 4 _ m.a4 m'.a4 rfl rfl]
  cases (m.a4 == m'.a4) <;> simp only [Bool.false_and, Bool.true_and, if_true, Bool.false_eq_true, if_false]
  rw [step_items W _ .u8 hp hu 9998 1 _ _ 5 _ m.a5 m'.a5 rfl rfl]
  cases (m.a5 == m'.a5) <;> simp only [Bool.false_and, Bool.true_and, if_true, Bool.false_eq_true, if_false]
  rw [step_items W _ .u8 hp hu 9998 1 _ _ 6 _ m.a6 m'.a6 rfl rfl]
  cases (m.a6 == m'.a6) <;> simp only [Bool.false_and, Bool.true_and, if_true, Bool.false_eq_true, if_false]
  rw [step_items W _ .u8 hp hu 9998 1 _ _ 7 _ m.a7 m'.a7 rfl rfl]
  cases (m.a7 == m'.a7) <;> simp [Op.eqItems]
instance : DecidableEq N8 := fun x y => if h : x.l = y.l then isTrue (N8.ext_ h) else isFalse (fun e => h (by rw [e]))
theorem N8.v_l (m : N8) : m.v = .agg (m.l.map (Value.int .u8)).toArray := rfl
section
variable {P : Program} {ops : Array Oper} {rest : List Oper} {a : Act} {w : World} {Q : Exit → Act → World → Prop} {dst : Option Tmp} {x y : Operand} {ty t : TypeId} {pos : String} {after : Array Edge}
end
section
variable {P : Program} {ops : Array Oper} {rest : List Oper} {a : Act} {w : World} {Q : Exit → Act → World → Prop} {dst : Option Tmp} {x y : Operand} {ty t : TypeId} {pos : String} {after : Array Edge}
end
section
variable {H : Type} {enc : TypeId × Value → H} {w : World}
theorem cid_of_trod {fuel : Nat} {cs : List Value} {x : DataW H × List MemPlace} (h : DataW.trod enc Try.prog w 0 (fun _ => true) true fuel 27 cs = some x) (hl : cs.length = 8) :
    ∃ v : N8, cs = v.l.map (Value.int .u8) ∧ Byt v.l := by
  have c5 : Try.prog.cellsOf 5 = 1 := by kernel_rfl
  obtain ⟨xs, m, _, _, _, hxl, hf⟩ := DataW.trod_array Try.underlying27 h
  rw [c5] at hf
  match cs, hl with
  | [u0, u1, u2, u3, u4, u5, u6, u7], _ =>
    match xs, hxl with
    | [x0, x1, x2, x3, x4, x5, x6, x7], _ =>
      have h0 : DataW.trod enc Try.prog w 0 (fun _ => true) true m 5 [u0] = some x0 := hf 0 (by decide)
      have h1 : DataW.trod enc Try.prog w 0 (fun _ => true) true m 5 [u1] = some x1 := hf 1 (by decide)
      have h2 : DataW.trod enc Try.prog w 0 (fun _ => true) true m 5 [u2] = some x2 := hf 2 (by decide)
      have h3 : DataW.trod enc Try.prog w 0 (fun _ => true) true m 5 [u3] = some x3 := hf 3 (by decide)
      have h4 : DataW.trod enc Try.prog w 0 (fun _ => true) true m 5 [u4] = some x4 := hf 4 (by decide)
      have h5 : DataW.trod enc Try.prog w 0 (fun _ => true) true m 5 [u5] = some x5 := hf 5 (by decide)
      have h6 : DataW.trod enc Try.prog w 0 (fun _ => true) true m 5 [u6] = some x6 := hf 6 (by decide)
      have h7 : DataW.trod enc Try.prog w 0 (fun _ => true) true m 5 [u7] = some x7 := hf 7 (by decide)
      obtain ⟨k0, e0, _, w0⟩ := DataW.trod_int Try.underlying5 h0
      obtain ⟨k1, e1, _, w1⟩ := DataW.trod_int Try.underlying5 h1
      obtain ⟨k2, e2, _, w2⟩ := DataW.trod_int Try.underlying5 h2
      obtain ⟨k3, e3, _, w3⟩ := DataW.trod_int Try.underlying5 h3
      obtain ⟨k4, e4, _, w4⟩ := DataW.trod_int Try.underlying5 h4
      obtain ⟨k5, e5, _, w5⟩ := DataW.trod_int Try.underlying5 h5
      obtain ⟨k6, e6, _, w6⟩ := DataW.trod_int Try.underlying5 h6
      obtain ⟨k7, e7, _, w7⟩ := DataW.trod_int Try.underlying5 h7
      obtain rfl : u0 = .int .u8 k0 := by simpa using e0
      obtain rfl : u1 = .int .u8 k1 := by simpa using e1
      obtain rfl : u2 = .int .u8 k2 := by simpa using e2
      obtain rfl : u3 = .int .u8 k3 := by simpa using e3
      obtain rfl : u4 = .int .u8 k4 := by simpa using e4
      obtain rfl : u5 = .int .u8 k5 := by simpa using e5
      obtain rfl : u6 = .int .u8 k6 := by simpa using e6
      obtain rfl : u7 = .int .u8 k7 := by simpa using e7
      refine ⟨⟨k0, k1, k2, k3, k4, k5, k6, k7⟩, rfl, ?_⟩
      have b0 := bounds_u8 w0
      have b1 := bounds_u8 w1
      have b2 := bounds_u8 w2
      have b3 := bounds_u8 w3
      have b4 := bounds_u8 w4
      have b5 := bounds_u8 w5
      have b6 := bounds_u8 w6
      have b7 := bounds_u8 w7
      intro y hy
      simp only [N8.l, List.mem_cons, List.not_mem_nil, or_false] at hy
      rcases hy with rfl | rfl | rfl | rfl | rfl | rfl | rfl | rfl <;> omega
end
end
section
set_option linter.unusedVariables false
set_option linter.unusedSimpArgs false
open Go.RowKit Go.ChangeShapes Go.WideShapes Go.Deep
theorem a8_info : (Try.prog.info? 26).map (·.size) = some 8 := by kernel_rfl
theorem run_a8 (W : World) (m m' : N8) : (Op.equalIn 10000 26 m.v m'.v).run Try.prog W = .ok (n8B m m') W := by
  have hp : Try.prog.plainKey 5 = true := by kernel_rfl
  have hu : Try.prog.underlying 5 = some (.int .u8) := Try.underlying5
  have hc : Try.prog.cellsOf 5 = 1 := by kernel_rfl
  obtain ⟨i, hi⟩ : ∃ i, Try.prog.info? 5 = some i := by
    cases h : Try.prog.info? 5 with
    | some i => exact ⟨i, rfl⟩
    | none => exact absurd (show (Try.prog.info? 5).isSome = true by kernel_rfl) (by rw [h]; simp)
  unfold N8.v
  rw [show (10000 : Nat) = 9999 + 1 from rfl, run_equalIn_array W 9999 _ _ (n := 8) Try.underlying26 hi, hc, show (9999 : Nat) = 9998 + 1 from rfl]
  rw [show List.range 8 = [0, 1, 2, 3, 4, 5, 6, 7] from rfl]
  unfold n8B
  rw [step_items W _ .u8 hp hu 9998 1 _ _ 0 _ m.a0 m'.a0 rfl rfl]
  cases (m.a0 == m'.a0) <;> simp only [Bool.false_and, Bool.true_and, if_true, Bool.false_eq_true, if_false]
  rw [step_items W _ .u8 hp hu 9998 1 _ _ 1 _ m.a1 m'.a1 rfl rfl]
  cases (m.a1 == m'.a1) <;> simp only [Bool.false_and, Bool.true_and, if_true, Bool.false_eq_true, if_false]
  rw [step_items W _ .u8 hp hu 9998 1 _ _ 2 _ m.a2 m'.a2 rfl rfl]
  cases (m.a2 == m'.a2) <;> simp only [Bool.false_and, Bool.true_and, if_true, Bool.false_eq_true, if_false]
  rw [step_items W _ .u8 hp hu 9998 1 _ _ 3 _ m.a3 m'.a3 rfl rfl]
  cases (m.a3 == m'.a3) <;> simp only [Bool.false_and, Bool.true_and, if_true, Bool.false_eq_true, if_false]
  rw [step_items W _ .u8 hp hu 9998 1 _ _ 4 _ m.a4 m'.a4 rfl rfl]
  cases (m.a4 == m'.a4) <;> simp only [Bool.false_and, Bool.true_and, if_true, Bool.false_eq_true, if_false]
  rw [step_items W _ .u8 hp hu 9998 1 _ _ 5 _ m.a5 m'.a5 rfl rfl]
  cases (m.a5 == m'.a5) <;> simp only [Bool.false_and, Bool.true_and, if_true, Bool.false_eq_true, if_false]
  rw [step_items W _ .u8 hp hu 9998 1 _ _ 6 _ m.a6 m'.a6 rfl rfl]
  cases (m.a6 == m'.a6) <;> simp only [Bool.false_and, Bool.true_and, if_true, Bool.false_eq_true, if_false]
  rw [step_items W _ .u8 hp hu 9998 1 _ _ 7 _ m.a7 m'.a7 rfl rfl]
  cases (m.a7 == m'.a7) <;> simp [Op.eqItems]
section
variable {H : Type} {enc : TypeId × Value → H} {w : World}
end
section
variable {ops : Array Oper} {rest : List Oper} {a : Act} {w : World} {Q : Exit → Act → World → Prop} {dst : Option Tmp} {x y : Operand} {t : TypeId} {pos : String} {after : Array Edge} {g : Option (Nat × Bool)}
theorem at_ld8 (h : wpList Try.prog ops Q (⟨dst, .load 26 x, t, pos, after, g⟩ :: rest) a w) : wpList Try.prog ops Q (⟨dst, .load 26 x, t, pos, after, g⟩ :: rest) a w := h
theorem at_st8 (h : wpList Try.prog ops Q (⟨dst, .store 26 x y, t, pos, after, g⟩ :: rest) a w) : wpList Try.prog ops Q (⟨dst, .store 26 x y, t, pos, after, g⟩ :: rest) a w := h
theorem ld_8g (hg : Region.wanted ⟨dst, .load 26 x, t, pos, after, g⟩ (yielded ops a.tmps) = true) (p o : Nat) (m : N8) (hx : a.eval x = .pointer (some ⟨p, o, none⟩)) (hA : w.rangeAt p o (m.l.map (Value.int .u8)))
    (h : wpList Try.prog ops Q rest (a.put dst m.v) w) : wpList Try.prog ops Q (⟨dst, .load 26 x, t, pos, after, g⟩ :: rest) a w := by
  refine wpList_step fun K hK => ?_
  rw [if_pos hg]
  exact wp_load_mid 26 x rfl p o hx (m.l.map (Value.int .u8)) _ hA Try.underlying26 rfl (by rw [show (m.l.map (Value.int .u8)).length = 8 from rfl]; exact a8_info) (hK _ _ h)
theorem st_8 (p : Nat) (T : TypeId) (l : List Value) (m : N8) (hx : a.eval x = .pointer (some ⟨p, 0, none⟩)) (hy : a.eval y = m.v) (hA : At w p T l) (hl : l.length = 8)
    (h : ∀ w', At w' p T (m.l.map (Value.int .u8)) → Kept (· = p) w w' → wpList Try.prog ops Q rest (a.put dst undef) w') :
    wpList Try.prog ops Q (⟨dst, .store 26 x y, t, pos, after, none⟩ :: rest) a w :=
  wpList_store_at p T l (m.l.map (Value.int .u8)) hx hy hA (by rw [hl]; rfl) (by rw [show (m.l.map (Value.int .u8)).length = 8 from rfl]; exact a8_info) rfl h
end
section
variable {ops : Array Oper} {rest : List Oper} {a : Act} {w : World} {Q : Exit → Act → World → Prop}
end
end
end Go.Proofs.Ytehdilgnlhhjdaa
