/-
  A row of bytes that came in as an argument, in the words of the walks. Its conditions: the reading's own (its spare room is at least 0, each cell is a byte).
-/
import Derived.Test.YtdakbedohjemeaaBytes
import Derived.OpenShut
import Derived.Test.YtdakbedohjemeaaProg
import Derived.Test.YtdakbedohjemeaaMq0
import Derived.Deep.Slices
import Derived.ChangeSlices
import Derived.Test.YtdakbedohjemeaaMq1
import Derived.Deep.QuietTactic
import Derived.BigQuiet
import Derived.Deep.RegionHeld3
import Derived.WalkSpells
namespace Go.Proofs.Ytdakbedohjemeaa
section
set_option linter.unusedVariables false
open Go.RowKit
theorem cell_lt {w : World} {b off : Nat} {v : Value} (h : w.cell? ⟨b, off, none⟩ = some v) : b < w.heap.size := by
  rcases Nat.lt_or_ge b w.heap.size with hlt | hge
  · exact hlt
  · have e : w.heap[b]? = none := Array.getElem?_eq_none hge
    simp [World.cell?, e] at h
end
section
set_option linter.unusedVariables false
open Go.RowKit Go.ChangeShapes Go.WideShapes Go.Deep
section
variable {H : Type} {enc : TypeId × Value → H} {P : Program} {w : World}
end
end
section
set_option linter.unusedVariables false
open Go.RowKit Go.ChangeShapes Go.WideShapes Go.Deep
/-- Eight bytes. -/
structure N8 where
  a0 : Int
  a1 : Int
  a2 : Int
  a3 : Int
  a4 : Int
  a5 : Int
  a6 : Int
  a7 : Int
def N8.l (m : N8) : List Int := [m.a0, m.a1, m.a2, m.a3, m.a4, m.a5, m.a6, m.a7]
def N8.zero : N8 := ⟨0, 0, 0, 0, 0, 0, 0, 0⟩
def N8.of (l : List Int) : N8 := ⟨l.getD 0 0, l.getD 1 0, l.getD 2 0, l.getD 3 0, l.getD 4 0, l.getD 5 0, l.getD 6 0, l.getD 7 0⟩
def N8.v (m : N8) : Value := .agg #[.int .u8 m.a0, .int .u8 m.a1, .int .u8 m.a2, .int .u8 m.a3, .int .u8 m.a4, .int .u8 m.a5, .int .u8 m.a6, .int .u8 m.a7]
theorem N8.ext_ {x y : N8} (h : x.l = y.l) : x = y := by
  obtain ⟨a, b, c, d, e, f, g, i⟩ := x
  obtain ⟨a', b', c', d', e', f', g', i'⟩ := y
  simp only [N8.l, List.cons.injEq] at h
  obtain ⟨rfl, rfl, rfl, rfl, rfl, rfl, rfl, rfl, _⟩ := h
  rfl
theorem N8.l_of (l : List Int) (h : l.length = 8) : (N8.of l).l = l := by
  match l, h with
  | [a, b, c, d, e, f, g, i], _ => rfl
instance : DecidableEq N8 := fun x y => if h : x.l = y.l then isTrue (N8.ext_ h) else isFalse (fun e => h (by rw [e]))
section
variable {P : Program} {ops : Array Oper} {rest : List Oper} {a : Act} {w : World} {Q : Exit → Act → World → Prop} {dst : Option Tmp} {x y : Operand} {ty t : TypeId} {pos : String} {after : Array Edge}
/-- The store of some cells within a block. -/
theorem wpList_store_sub (p o : Nat) (T : TypeId) (l l' vs : List Value) (hx : a.eval x = .pointer (some ⟨p, o, none⟩)) (hy : a.eval y = .agg vs.toArray) (hA : At w p T l) (hl : o + vs.length ≤ l.length)
    (hi : (P.info? ty).map (·.size) = some vs.length) (h1 : vs.all (·.oneCell') = true) (hres : setFrom l o vs = l') (h : ∀ w', At w' p T l' → Kept (· = p) w w' → wpList P ops Q rest (a.put dst undef) w') :
    wpList P ops Q (⟨dst, .store ty x y, t, pos, after, none⟩ :: rest) a w := by
  refine wpList_store_mid rfl ty x y rfl p o vs.toArray hx hy (fun j hj => ?_) (by simpa using hi) (by simpa using h1) ?_
  · simp at hj
    rw [hA.cell, hA.frozen]
    simp
    omega
  · have := At.setFrom vs l o w hA
    rw [hres] at this
    exact h _ (by simpa using this) (by simpa using Kept.setCells (S := (· = p)) rfl vs o w (Kept.refl _ _))
end
section
variable {P : Program} {ops : Array Oper} {rest : List Oper} {a : Act} {w : World} {Q : Exit → Act → World → Prop} {dst : Option Tmp} {x y : Operand} {ty t : TypeId} {pos : String} {after : Array Edge}
end
section
variable {H : Type} {enc : TypeId × Value → H} {w : World}
end
end
section
set_option linter.unusedVariables false
open Go.RowKit
def foldS (n : Int) (bs : List Int) : Int := bs.foldl (fun n x => n * 256 + x) n
def szS (b0 : Int) : Nat := if b0 < 64 then 1 else if b0 < 128 then 2 else if b0 < 192 then 4 else 8
/-- The number that bs begins with, and how many bytes it has. -/
def getS (bs : List Int) : Int × Int :=
  if bs = [] then (0, 0) else if bs.length < szS (bs.getD 0 0) then (0, 0)
  else (foldS (bs.getD 0 0 % 64) ((bs.take (szS (bs.getD 0 0))).drop 1), (szS (bs.getD 0 0) : Int))
theorem foldS_snoc (n : Int) (bs : List Int) (x : Int) : foldS n (bs ++ [x]) = foldS n bs * 256 + x := by simp [foldS]
theorem foldS_bd : ∀ (bs : List Int) (n : Int), Byt bs → 0 ≤ n → ∀ M : Int, n < M → 0 ≤ foldS n bs ∧ foldS n bs < M * 256 ^ bs.length
  | [], n, _, h0, M, hM => by simp [foldS]; omega
  | x :: bs, n, hb, h0, M, hM => by
    have hx := hb x (by simp)
    have := foldS_bd bs (n * 256 + x) (fun y hy => hb y (by simp [hy])) (by omega) (M * 256) (by omega)
    rw [List.length_cons, Int.pow_succ, Int.mul_comm (256 ^ bs.length), ← Int.mul_assoc]
    exact this
theorem foldS_small (bs : List Int) (n : Int) (hb : Byt bs) (h0 : 0 ≤ n) (hn : n < 64) (hl : bs.length ≤ 6) : 0 ≤ foldS n bs ∧ foldS n bs < 18014398509481984 := by
  have h := foldS_bd bs n hb h0 64 hn
  have h1 : (256 : Nat) ^ bs.length ≤ 256 ^ 6 := Nat.pow_le_pow_right (by decide) hl
  have h2 : ((256 : Int) ^ bs.length) = ((256 ^ bs.length : Nat) : Int) := by simp
  rw [h2] at h
  omega
theorem or256 (F y : Int) (h0 : 0 ≤ F) (h1 : F < 72057594037927936) (h2 : 0 ≤ y) (h3 : y < 256) : bits BinOp.or IntKind.u64 (F * 256) y = F * 256 + y := by
  rw [u64_or _ _ (by omega) (by omega) h2 (by omega), nat_join 8 _ _ (by omega) (by omega)]; omega
theorem szS_wrap (x : Int) (h0 : 0 ≤ x) (h1 : x < 256) : wrap64 (2 ^ (x / 64).toNat) = (szS x : Int) := by
  have : x / 64 = 0 ∨ x / 64 = 1 ∨ x / 64 = 2 ∨ x / 64 = 3 := by omega
  unfold szS
  rcases this with h | h | h | h <;> rw [h, wrapI]
  · rw [if_pos (by omega)]; rfl
  · rw [if_neg (by omega), if_pos (by omega)]; rfl
  · rw [if_neg (by omega), if_neg (by omega), if_pos (by omega)]; rfl
  · rw [if_neg (by omega), if_neg (by omega), if_neg (by omega)]; rfl
theorem szS_bd (x : Int) : 1 ≤ szS x ∧ szS x ≤ 8 := by unfold szS; (repeat' split) <;> omega
theorem take_drop_snoc (bs : List Int) (s k : Nat) (hk : k + 1 < s) (hs : s ≤ bs.length) :
    ((bs.take s).drop 1).take (k + 1) = ((bs.take s).drop 1).take k ++ [bs.getD (1 + k) 0] := by
  have hl : k < ((bs.take s).drop 1).length := by simp; omega
  rw [List.take_succ_eq_append_getElem hl]
  congr 2
  rw [List.getElem_drop, List.getElem_take, List.getD_eq_getElem?_getD, List.getElem?_eq_getElem (by omega)]
  rfl
theorem get_short (bs : List Int) (hn : bs ≠ []) (h : bs.length < szS (bs.getD 0 0)) : getS bs = (0, 0) := by
  unfold getS; rw [if_neg hn, if_pos h]
theorem get_full (bs : List Int) (hn : bs ≠ []) (h : szS (bs.getD 0 0) ≤ bs.length) :
    getS bs = (foldS (bs.getD 0 0 % 64) ((bs.take (szS (bs.getD 0 0))).drop 1), (szS (bs.getD 0 0) : Int)) := by
  unfold getS; rw [if_neg hn, if_neg (by omega)]
theorem get_any (A : Option Addr) (n c : Nat) (bs : List Int) (w : World) (B : Nat) (hr : Rd w B A n bs) (hn : n ≤ c) (hc : c ≤ maxLen) :
    Calls Try.prog 93 #[.slice A n c] w fun e w' => e = .returned (.tuple #[.int .u64 (getS bs).1, .int .i64 (getS bs).2]) ∧ w = w' := by
  unfold maxLen at hc
  rcases Nat.eq_zero_or_pos n with h0 | h0
  · subst h0
    obtain rfl := hr.zero
    go_enter Try.func93, Try.ntmps93
    go_wp2
    go_ret2
    exact ⟨rfl, rfl⟩
  · obtain ⟨b, off, rfl, hb, hcell⟩ := hr.2.2 h0
    have hby := hr.2.1
    have hlen := hr.1
    have hb0 := hr.2.1.getD 0
    have c0 := hcell 0 h0
    have hne0 : bs ≠ [] := by intro h; rw [h] at hlen; simp at hlen; omega
    have hw := szS_wrap _ hb0.1 hb0.2
    have hsb := szS_bd (bs.getD 0 0)
    have gs := get_short bs hne0
    have gf := get_full bs hne0
    obtain ⟨x0, hx0⟩ : ∃ x0, bs.getD 0 0 = x0 := ⟨_, rfl⟩
    rw [hx0] at hb0 c0 hw hsb gs gf
    clear hx0
    obtain ⟨s, hs⟩ : ∃ s, szS x0 = s := ⟨_, rfl⟩
    rw [hs] at hw hsb gs gf
    clear hs
    rw [Nat.add_zero] at c0
    obtain ⟨hb1, hb2⟩ := hb0
    obtain ⟨hs1, hs2⟩ := hsb
    have hand : bits BinOp.and IntKind.u8 x0 63 = x0 % 64 := u8_and63 _ hb1 hb2
    have hne : ((n : Int) == 0) = false := by simp; omega
    have hp : (0 : Int) < (n : Int) := by omega
    have L := Lib.hid hlen; clear hlen
    rcases Nat.lt_or_ge n s with hlt | hge
    · have G := Lib.hid (gs (by rw [L.out]; omega)); clear gs gf hcell hr
      go_enter Try.func93, Try.ntmps93
      go_wp2
      go_ret2
      exact ⟨by rw [G.out]; rfl, rfl⟩
    · have G := Lib.hid (gf (by rw [L.out]; omega)); clear gs gf
      have HC := Lib.hid hcell; clear hcell hr
      by_cases h1c : c = 1
      · subst h1c
        obtain rfl : n = 1 := by omega
        obtain rfl : s = 1 := by omega
        go_enter Try.func93, Try.ntmps93
        go_wp2
        go_loop [5, 29] (fun m i => i = .int .i64 0 ∧ m = .int .u64 (x0 % 64)) (fun _ i => 0)
        case atStart => exact ⟨rfl, rfl⟩
        case round =>
          obtain ⟨rfl, rfl⟩ := hrel
          go_wp2
          go_ret2
          exact ⟨by rw [G.out]; simp [foldS], rfl⟩
      · obtain ⟨T, hT⟩ : ∃ T, (bs.take s).drop 1 = T := ⟨_, rfl⟩
        have hTl : T.length = s - 1 := by rw [← hT]; simp; rw [L.out]; omega
        have hTb : Byt T := by rw [← hT]; exact (hby.take s).drop 1
        have hTs : ∀ k, k + 1 < s → T.take (k + 1) = T.take k ++ [bs.getD (1 + k) 0] := fun k hk => by
          rw [← hT]; exact take_drop_snoc bs s k hk (by rw [L.out]; omega)
        rw [hT] at G
        clear hT
        have TL := Lib.hid hTl; clear hTl
        have TS := Lib.hid hTs; clear hTs
        go_enter Try.func93, Try.ntmps93
        go_wp2
        go_loop [5, 29] (fun m i => ∃ k : Nat, k ≤ s - 1 ∧ i = .int .i64 k ∧ m = .int .u64 (foldS (x0 % 64) (T.take k))) (fun _ i => s - 1 - (intOf i).toNat)
        case atStart => exact ⟨0, Nat.zero_le _, rfl, by simp [foldS]⟩
        case round =>
          obtain ⟨k, hk, rfl, rfl⟩ := hrel
          by_cases hlt : k < s - 1
          · have c1 := HC.out (1 + k) (by omega)
            rw [show off + (1 + k) = off + 1 + k by omega] at c1
            have hy := hby.getD (1 + k)
            have hts := TS.out k (by omega)
            obtain ⟨y, hy0⟩ : ∃ y, bs.getD (1 + k) 0 = y := ⟨_, rfl⟩
            rw [hy0] at c1 hy hts
            clear hy0
            have hF := foldS_small (T.take k) (x0 % 64) (hTb.take k) (by omega) (by omega) (by have := List.length_take_le k T; omega)
            have hsn := foldS_snoc (x0 % 64) (T.take k) y
            rw [← hts] at hsn
            obtain ⟨F, hF0⟩ : ∃ F, foldS (x0 % 64) (T.take k) = F := ⟨_, rfl⟩
            rw [hF0] at hF hsn
            rw [hF0]
            clear hF0
            obtain ⟨hF1, hF2⟩ := hF
            obtain ⟨hy1, hy2⟩ := hy
            have hor := or256 F y hF1 (by omega) hy1 hy2
            have N := Lib.hid hsn; clear hsn hts
            go_wp2
            go_round
            case rel => exact ⟨k + 1, by omega, by go_num, by rw [N.out]⟩
            case measure => simp [intOf]; omega
          · have hkk : T.take k = T := List.take_of_length_le (by rw [TL.out]; omega)
            rw [hkk]
            clear hkk
            go_wp2
            go_ret2
            exact ⟨by rw [G.out]; rfl, rfl⟩
end
end Go.Proofs.Ytdakbedohjemeaa
