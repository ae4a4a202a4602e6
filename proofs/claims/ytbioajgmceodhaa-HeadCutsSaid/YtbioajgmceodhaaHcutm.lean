/-
  Beginnings of a long head's packet, one with another first bit, one with another version: what they say; a byte of a row of the call's own turned.
-/
import Derived.Test.YtbioajgmceodhaaHback
namespace Go.Proofs.Ytbioajgmceodhaa
set_option linter.unusedVariables false
set_option linter.unusedSimpArgs false
open Go.RowKit
theorem parse_long_s (bs : List Int) (h : HN) (tok : List Int) (a b : Int) (hp : parseS bs = some (h, tok, a, b)) (hx : ¬ byteR (bs, false) / 128 = 0) : h.s ≠ 2 := by
  unfold parseS at hp
  simp only at hp
  by_cases h64 : byteR (bs, false) / 64 % 2 = 0
  · rw [if_pos h64] at hp; cases hp
  rw [if_neg h64, if_neg hx] at hp
  unfold htailS at hp
  split at hp
  case isFalse => cases hp
  case isTrue hc =>
    injection hp with hp
    injection hp with e1 _
    have := of_decide_eq_true hc.1
    rw [← e1]
    show byteR (bs, false) / 16 % 4 ≠ 2
    omega
/-- A long head's bytes open so. -/
theorem henc_open (m : HN) (tok : List Int) (n : Int) (h : m.s ≠ 2) : ∃ r, hencS m tok n = hfirst m :: 0 :: 0 :: 0 :: 1 :: 8 :: r := by
  unfold hencS; rw [if_neg h]
  exact ⟨m.t.l ++ 8 :: (m.f.l ++ ((if m.s = 0 then textB tok else []) ++ twoB (16384 + n))), by simp only [List.cons_append, List.nil_append, List.append_assoc]⟩
theorem cut_none (m : HN) (tok : List Int) (k : Nat) (h0 : 0 ≤ m.s) (h1 : m.s ≤ 1) (w0 : 1 ≤ m.w) (w4 : m.w ≤ 4) (ht : tok.length ≤ 32) (ht0 : m.s ≠ 0 → tok = []) (hk : 12 ≤ k) (hk1 : k ≤ 16383) (q : Nat)
    (hq : q < (hencS m tok k ++ List.replicate k 0).length) : parseS ((hencS m tok k ++ List.replicate k 0).take q) = none := by
  obtain ⟨r, hr⟩ := henc_open m tok k (by omega)
  have hb := hfirst_bd m h0 (by omega) w0 w4
  have hpe := parse_enc m tok k (List.replicate k 0) h0 (by omega) w0 w4 ht ht0 (fun h => by omega) (by omega) (by omega) (by simp)
  cases hp : parseS ((hencS m tok k ++ List.replicate k 0).take q) with
  | none => rfl
  | some x =>
    obtain ⟨h, t, a, b⟩ := x
    exfalso
    rcases Nat.eq_zero_or_pos q with hq0 | hq0
    · subst hq0
      rw [List.take_zero, parse_nil] at hp
      cases hp
    · have hx : byteR ((hencS m tok k ++ List.replicate k 0).take q, false) = hfirst m := by
        rw [hr, List.cons_append]
        obtain ⟨j, rfl⟩ : ∃ j, q = j + 1 := ⟨q - 1, by omega⟩
        rw [List.take_succ_cons]
        exact (take_cons _ _).1
      have h128 := hb.2.2.2.2 (by omega)
      have hs := parse_long_s _ _ _ _ _ hp (by rw [hx]; omega)
      have hm := parse_more _ ((hencS m tok k ++ List.replicate k 0).drop q) _ _ _ _ hp hs
      rw [List.take_append_drop, hpe] at hm
      obtain ⟨e, hle⟩ := hm
      injection e with e
      injection e with _ e
      injection e with _ e
      injection e with _ e
      rw [if_neg (by omega)] at e
      rw [List.length_take] at hle
      rw [List.length_append, List.length_replicate] at hq
      omega
theorem bit_none (x : Int) (r : List Int) (hx : x / 64 % 2 = 0) : parseS (x :: r) = none := by
  unfold parseS; simp only; rw [if_pos (by rw [(take_cons _ _).1]; exact hx)]
theorem version_none (x z : Int) (r : List Int) (hz : z ≠ 1) (h64 : ¬ x / 64 % 2 = 0) (h128 : ¬ x / 128 = 0) : parseS (x :: 0 :: 0 :: 0 :: z :: r) = none := by
  unfold parseS
  simp only
  rw [(take_cons _ _).1, (take_cons _ _).2, if_neg h64, if_neg h128]
  have t4 := take_app [0, 0, 0, z] r 4 rfl
  have e : (0 :: 0 :: 0 :: z :: r) = [0, 0, 0, z] ++ r := rfl
  rw [e, t4.1, t4.2]
  unfold htailS
  rw [if_neg]
  rintro ⟨hd, _⟩
  have := of_decide_eq_true hd
  simp at this
  exact hz this.2
set_option maxRecDepth 100000 in
theorem nat_or128 : ∀ n : Fin 256, 128 ≤ (n.val ||| 128) ∧ (n.val ||| 128) < 256 := by decide
theorem b_or128 (x : Int) (h0 : 0 ≤ x) (h1 : x < 256) : 128 ≤ bits BinOp.or IntKind.u8 x 128 ∧ bits BinOp.or IntKind.u8 x 128 < 256 := by
  obtain ⟨n, rfl⟩ := Int.eq_ofNat_of_zero_le h0
  rw [u8_or _ _ h0 h1 (by decide) (by decide)]
  have := nat_or128 ⟨n, by omega⟩
  simp only at this
  rw [show (Int.toNat (n : Int)) = n from rfl, show Int.toNat (128 : Int) = 128 from rfl]
  omega
theorem Own.place {w : World} {base : Nat} {e : TypeId} {v : Value} {bs : List Int} (h : Own w base e v bs) (hp : 0 < bs.length) :
    ∃ g c l, v = .slice (some ⟨g, 0, none⟩) bs.length c ∧ At w g e l ∧ l.length = c ∧ l.take bs.length = bs.map (Value.int .u8) ∧ base ≤ g ∧ bs.length ≤ c ∧ c ≤ maxLen := by
  rcases h.1.2 with ⟨_, h0⟩ | ⟨g, cap, cur, hv, hbg, hg, hnc, hcm, hcs, htake⟩
  · omega
  · exact ⟨g, cap, cur.toList, hv, hg, by simp; omega, by simpa using htake, hbg, hnc, hcm⟩
theorem place_cell {w : World} {g : Nat} {e : TypeId} {l : List Value} {bs : List Int} (h : At w g e l) (ht : l.take bs.length = bs.map (Value.int .u8)) (i : Nat) (x : Int) (hx : bs[i]? = some x) : w.cell? ⟨g, i, none⟩ = some (.int .u8 x) := by
  rw [h.cell]
  have hi : i < bs.length := (List.getElem?_eq_some_iff.1 hx).1
  rw [← List.getElem?_take_of_lt hi, ht, List.getElem?_map, hx]
  rfl
theorem place_set {w : World} {g base : Nat} {e : TypeId} {l : List Value} {bs : List Int} {c : Nat} (h : At w g e l) (hl : l.length = c) (ht : l.take bs.length = bs.map (Value.int .u8)) (hb : Byt bs) (hbg : base ≤ g) (hn : bs.length ≤ c) (hc : c ≤ maxLen) (i : Nat) (y : Int) (hy : 0 ≤ y ∧ y < 256) :
    Own (w.setCell ⟨g, i, none⟩ (.int .u8 y)) base e (.slice (some ⟨g, 0, none⟩) bs.length c) (bs.set i y) := by
  refine Own.of_block ?_ (by simp) (h.set i (.int .u8 y)) hbg hn hc (by simp [hl]) ?_
  · intro z hz
    rcases List.mem_or_eq_of_mem_set hz with hz | hz
    · exact hb z hz
    · rw [hz]; exact hy
  · show (l.set i (.int .u8 y)).take bs.length = _
    rw [List.take_set, ht, List.map_set]
end Go.Proofs.Ytbioajgmceodhaa
