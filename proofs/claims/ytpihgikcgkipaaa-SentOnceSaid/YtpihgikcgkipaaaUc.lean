/-
  A packet with frames of its own (sent.byItself).
-/
import Derived.Test.YtpihgikcgkipaaaUb
namespace Go.Proofs.Ytpihgikcgkipaaa
set_option linter.unusedVariables false
set_option linter.unusedSimpArgs false
open Go.RowKit
section
variable {ops : Array Oper} {rest : List Oper} {a : Act} {w : World} {Q : Exit → Act → World → Prop} {dst : Option Tmp} {x y : Operand} {t : TypeId} {pos : String} {after : Array Edge}
theorem ld_fm (b o : Nat) (l : List Value) (hx : a.eval x = .pointer (some ⟨b, o, none⟩)) (hA : w.rangeAt b o l) (hl : l.length = 19)
    (h : wpList Try.prog ops Q rest (a.put dst (.agg l.toArray)) w) : wpList Try.prog ops Q (⟨dst, .load 68 x, t, pos, after, none⟩ :: rest) a w := by
  refine wpList_step fun K hK => ?_
  rw [if_pos (by rfl)]
  exact wp_load_mid _ _ rfl b o hx l _ hA Try.underlying68 rfl (by rw [hl]; exact pf_size) (hK _ _ h)
theorem at_ldp (h : wpList Try.prog ops Q (⟨dst, .load 31 x, t, pos, after, none⟩ :: rest) a w) : wpList Try.prog ops Q (⟨dst, .load 31 x, t, pos, after, none⟩ :: rest) a w := h
theorem at_stp (h : wpList Try.prog ops Q (⟨dst, .store 31 x y, t, pos, after, none⟩ :: rest) a w) : wpList Try.prog ops Q (⟨dst, .store 31 x y, t, pos, after, none⟩ :: rest) a w := h
theorem pk_size : (Try.prog.info? 31).map (·.size) = some 5 := by kernel_rfl
/-- A packet read out of a row. -/
theorem ld_pm (b o : Nat) (r : PK) (hx : a.eval x = .pointer (some ⟨b, o, none⟩)) (hA : PkAt w b o r)
    (h : wpList Try.prog ops Q rest (a.put dst (.agg (pkC r).toArray)) w) : wpList Try.prog ops Q (⟨dst, .load 31 x, t, pos, after, none⟩ :: rest) a w := by
  refine wpList_step fun K hK => ?_
  rw [if_pos (by rfl)]
  refine wp_load_mid _ _ rfl b o hx (pkC r) _ ?_ Try.underlying31 rfl pk_size (hK _ _ h)
  intro j v hj
  match j, hj with
  | 0, hj => simp [pkC] at hj; subst hj; exact hA.cn
  | 1, hj => simp [pkC] at hj; subst hj; exact hA.ct
  | 2, hj => simp [pkC] at hj; subst hj; exact hA.cs
  | 3, hj => simp [pkC] at hj; subst hj; exact hA.ca
  | 4, hj => simp [pkC] at hj; subst hj; exact hA.cf
  | j + 5, hj => simp [pkC] at hj
theorem st_ptop (w0 : World) (l : List Value) (r : PK) (hw : w = w0.alloc (.cells l.toArray 31)) (g : Nat) (hx : a.eval x = .pointer (some ⟨g, 0, none⟩)) (hg : g = w0.heap.size) (hy : a.eval y = .agg (pkC r).toArray) (hl : l.length = 5)
    (h : wpList Try.prog ops Q rest (a.put dst undef) (w0.alloc (.cells (pkC r).toArray 31))) :
    wpList Try.prog ops Q (⟨dst, .store 31 x y, t, pos, after, none⟩ :: rest) a w :=
  wpList_store_top w0 _ l (pkC r) hw g hx hg hy hl pk_size rfl h
theorem st_pat (p : Nat) (l : List Value) (r : PK) (hx : a.eval x = .pointer (some ⟨p, 0, none⟩)) (hy : a.eval y = .agg (pkC r).toArray) (hA : At w p 31 l) (hl : l.length = 5)
    (h : ∀ w', At w' p 31 (pkC r) → Kept (· = p) w w' → wpList Try.prog ops Q rest (a.put dst undef) w') :
    wpList Try.prog ops Q (⟨dst, .store 31 x y, t, pos, after, none⟩ :: rest) a w :=
  wpList_store_at p _ l (pkC r) hx hy hA hl pk_size rfl h
end
section
variable {w w' : World} {base : Nat} {v : Value} {n : Nat} {xs : List Value}
abbrev OwnW (w : World) (base : Nat) (v : Value) (n : Nat) (xs : List Value) : Prop := w.ownsRow base 68 19 v n xs
theorem ownF19_lt (h : w.ownsRow base 68 19 v n xs) : ∀ k, v.ownBlock = some k → base ≤ k ∧ k < w.heap.size := fun k hk => World.ownsRow.lt h k hk
theorem ownF19_keep (h : w.ownsRow base 68 19 v n xs) (hk : ∀ k, v.ownBlock = some k → w'.heap[k]? = w.heap[k]?) : w'.ownsRow base 68 19 v n xs := by
  refine ⟨h.1, ?_⟩
  rcases h.2 with h0 | ⟨g, cap, cur, rfl, hb, hg, hr⟩
  · exact .inl h0
  · exact .inr ⟨g, cap, cur, rfl, hb, (hk g rfl).trans hg, hr⟩
end
def PK.zero : PK := ⟨0, 0, 0, false, none, 0, 0⟩
def PK.put (r : PK) (A : Option Addr) (c : Nat) : PK := ⟨r.n, r.t, r.s, r.a, A, r.k, c⟩
theorem PK.put_core (r : PK) (A : Option Addr) (c : Nat) : (r.put A c).core = r.core := rfl
def ByPost (base : Nat) (r : PK) (w : World) (e : Ending) (w' : World) : Prop := ∃ A c, e = .returned (.agg (pkC (r.put A c)).toArray) ∧ FrOk w' base (r.put A c) ∧ Below w.heap.size w w'
set_option maxRecDepth 100000 in
set_option maxHeartbeats 4000000 in
theorem byItself_any (base : Nat) (r : PK) (w : World) (hf : FrOk w base r) :
    Calls Try.prog 26 #[.agg (pkC r).toArray] w (ByPost w.heap.size r w) := by
  obtain ⟨n, t, s, a, A, k, c⟩ := r
  have hk1 : k ≤ 1 := hf.k1
  have hrow : k = 1 → ∃ g, A = some ⟨g, 0, none⟩ ∧ g < w.heap.size ∧ w.rangeAt g 0 pingL := fun h1 => by
    subst h1
    rcases hf.own.2 with ⟨h0, _⟩ | ⟨g, cap, cur, e, hb, hg, hn, hm, hs, ht⟩
    · cases h0
    · injection e with e1 e2 e3
      have hA : At w g 68 cur.toList := hg
      refine ⟨g, e1, hA.lt, fun j v hj => ?_⟩
      rw [Nat.zero_add, hA.cell]
      have hp : pings 1 = pingL := by simp [pings]
      rw [show PK.k ⟨n, t, s, a, A, 1, c⟩ = 1 from rfl, hp] at ht
      rw [← ht, List.getElem?_take] at hj
      split at hj
      · exact hj
      · cases hj
  have hkz : (k : Int) = 0 ∨ (k : Int) = 1 := by omega
  have HC := Lib.hid copy_ping
  have HROW := Lib.hid hrow
  have hz := At.new_ (w := w.alloc (.cells #[.int .u64 n, .int .i64 t, .int .i64 s, .bool a, .slice A k c] 31)) 31 [.int .u64 0, .int .i64 0, .int .i64 0, .bool false, .slice none 0 0] (w.heap.size + 1) (by simp)
  have hx := (At.new w 31 [.int .u64 n, .int .i64 t, .int .i64 s, .bool a, .slice A k c]).alloc (.cells #[.int .u64 0, .int .i64 0, .int .i64 0, .bool false, .slice none 0 0] 31)
  have hb0 := ((Below.refl _ w).alloc (Nat.le_refl _) (.cells #[.int .u64 n, .int .i64 t, .int .i64 s, .bool a, .slice A k c] 31)).alloc (by simp) (.cells #[.int .u64 0, .int .i64 0, .int .i64 0, .bool false, .slice none 0 0] 31)
  have HX := Lib.hid hx
  have HZ := Lib.hid hz
  have HB := Lib.hid hb0
  have HPL := Lib.hid pingL_len
  have HPO := Lib.hid pingL_one
  have HPA := Lib.hid pingL_all
  clear hf hrow hx hz hb0
  show Calls _ _ #[.agg #[.int .u64 n, .int .i64 t, .int .i64 s, .bool a, .slice A k c]] w _
  go_enter Try.func26, Try.ntmps26
  go_wp2
  go_loopg [3, 9] 2 (fun kx s3 s9 wr => ∃ (i : Nat) (v : Value), v = s3 ∧ s9 = .int .i64 i ∧ i ≤ k ∧ k - i ≤ kx ∧ Below w.heap.size w wr ∧ wr.ownsRow w.heap.size 68 19 v i (pings i) ∧ At wr w.heap.size 31 [.int .u64 n, .int .i64 t, .int .i64 s, .bool a, .slice A k c] ∧ At wr (w.heap.size + 1) 31 [.int .u64 0, .int .i64 0, .int .i64 0, .bool false, .slice none 0 0])
  case atStart => exact ⟨0, _, rfl, rfl, Nat.zero_le _, by omega, HB.out, World.ownsRow_nil _ _ _ _, HX.out, HZ.out⟩
  case round =>
    obtain ⟨i, v, rfl, rfl, hik, hkx, hB, hO, hX, hZ⟩ := hrel
    by_cases hlt : i < k
    · obtain rfl : i = 0 := by omega
      obtain rfl : k = 1 := by omega
      obtain ⟨g, rfl, hg, hra⟩ := HROW.out rfl
      have hra2 : wr.rangeAt g 0 pingL := fun j v hj => (hB.cell (p := ⟨g, 0 + j, none⟩) hg).trans (hra j v hj)
      have HRA := Lib.hid hra2
      obtain ⟨M, hM⟩ : ∃ L, pingL = L := ⟨_, rfl⟩
      rw [hM] at HC HPL HPO HPA HRA
      have hp1 : pings 1 = M := by simp [pings, hM]
      have hO0 : wr.ownsRow w.heap.size 68 19 v 0 [] := hO
      have hBx := hB.alloc hB.size (.cells M.toArray 68)
      have hXx := hX.alloc (.cells M.toArray 68)
      have hZx := hZ.alloc (.cells M.toArray 68)
      have hOx := ownF19_keep hO0 (w' := wr.alloc (.cells M.toArray 68)) (fun k hk => Below.heap_alloc wr _ k (ownF19_lt hO0 k hk).2)
      have hFx := At.new wr 68 M
      clear hra hra2 hM hB hO hO0 hX hZ
      go_wp2_with (first | ((with_reducible refine at_ld ?_); first | refine ld_fm g 0 M (by rfl) HRA.out HPL.out ?_ | refine ld_fr _ _ (by rfl) hFx HPL.out ?_) | ((with_reducible refine at_st ?_); refine st_top _ _ _ (by rfl) _ (by rfl) (by simp) (by rfl) (by rfl) HPL.out HPA.out ?_) | fail)
      refine (HC.out _).mono ?_
      rintro e w1 ⟨rfl, hb1⟩
      have hB1 := hBx.trans (hb1.mono hBx.size)
      have hX1 := hXx.below hb1 hXx.lt
      have hZ1 := hZx.below hb1 hZx.lt
      have hO1 : OwnW w1 w.heap.size v 0 [] := ownF19_keep hOx (fun k hk => hb1.block k (ownF19_lt hOx k hk).2)
      have hB2 := hB1.alloc hB1.size (.cells M.toArray 68)
      have hX2 := hX1.alloc (.cells M.toArray 68)
      have hZ2 := hZ1.alloc (.cells M.toArray 68)
      have hO2 := ownF19_keep hO1 (w' := w1.alloc (.cells M.toArray 68)) (fun k hk => Below.heap_alloc w1 _ k (ownF19_lt hO1 k hk).2)
      have hF2 := At.new w1 68 M
      have hs1 : w.heap.size + 1 < w1.heap.size := hZ1.lt
      obtain ⟨g2, hg2⟩ : ∃ x, w1.heap.size = x := ⟨_, rfl⟩
      obtain ⟨w2, hw2⟩ : ∃ x, w1.alloc (.cells M.toArray 68) = x := ⟨_, rfl⟩
      have hs2 : w2.heap.size = g2 + 1 := by rw [← hw2, ← hg2]; simp
      rw [hw2] at hB2 hX2 hZ2 hO2 hF2
      rw [hg2] at hF2 hs1
      have HW2 := Lib.hid hw2
      have HG2 := Lib.hid hg2
      clear hB1 hX1 hZ1 hO1 hb1 hBx hXx hZx hOx hFx hw2 hg2
      go_wp2_with (first | (refine wpList_bsf M g2 HG2.out.symm (by rfl) HPL.out ?_; rw [HW2.out]) | (at_builtin; refine wpList_append_fr rfl (.tmp 13) (.tmp 16) rfl w.heap.size _ 0 [] rfl hO2 g2 1 M (by rfl) hF2 HPL.out HPO.out (by omega) (by omega) ?_; intro v7 w7 hown7 hgr7 hv7) | fail)
      have K7 := Kept.of_grown (S := fun k => v.ownBlock = some k) hgr7 (fun k hk => .inl hk)
      have hb7 : Below w.heap.size w w7 := K7.below hB2 (by omega) (fun j hj => (ownF19_lt hO2 j hj).1)
      have hX7 : At w7 w.heap.size 31 [.int .u64 n, .int .i64 t, .int .i64 s, .bool a, .slice (some ⟨g, 0, none⟩) 1 c] := hX2.kept K7 (fun h => by
        rcases hO2.2 with ⟨rfl, _⟩ | ⟨q, cap, cur, rfl, _, hq, _⟩
        · cases h
        · injection h with h
          subst h
          exact absurd (At.type_eq (l := cur.toList) hq hX2) (by decide))
      have hZ7 : At w7 (w.heap.size + 1) 31 [.int .u64 0, .int .i64 0, .int .i64 0, .bool false, .slice none 0 0] := hZ2.kept K7 (fun h => by
        rcases hO2.2 with ⟨rfl, _⟩ | ⟨q, cap, cur, rfl, _, hq, _⟩
        · cases h
        · injection h with h
          subst h
          exact absurd (At.type_eq (l := cur.toList) hq hZ2) (by decide))
      rw [List.nil_append, ← hp1] at hown7
      clear hB2 hX2 hZ2 hO2 hF2 K7 hgr7 hv7 hs1 hs2 HW2 HG2 hp1
      have H7 := Lib.hid (And.intro hb7 (And.intro hown7 (And.intro hX7 hZ7)))
      clear hb7 hown7 hX7 hZ7
      go_wp2_with fail
      go_roundg 0
      case measure => omega
      case rel => exact ⟨1, v7, rfl, rfl, by omega, by omega, H7.out.1, H7.out.2.1, H7.out.2.2.1, H7.out.2.2.2⟩
    · obtain rfl : i = k := by omega
      obtain ⟨A2, c2, rfl, hnc2⟩ : ∃ A2 c2, v = .slice A2 i c2 ∧ i ≤ c2 := by
        rcases hO.2 with ⟨rfl, h0⟩ | ⟨q, cap, cur, rfl, _, hq, hc, _⟩
        · obtain rfl : i = 0 := by
            have h1 := hO.1
            rcases Nat.eq_zero_or_pos i with h | h
            · exact h
            · obtain rfl : i = 1 := by omega
              simp [pings, pingL_len] at h0
          exact ⟨none, 0, rfl, Nat.le_refl _⟩
        · exact ⟨_, _, rfl, hc⟩
      have hX8 := hX.set 4 (.slice A2 i c2)
      have hK8 : Kept (· = w.heap.size) wr (wr.setCell ⟨w.heap.size, 4, none⟩ (.slice A2 i c2)) := (Kept.refl _ _).setAt _ _
      have hZ8 := hZ.kept hK8 (by omega)
      have hXZ : w.heap.size + 1 < wr.heap.size := hZ.lt
      have hO8 : OwnW (wr.setCell ⟨w.heap.size, 4, none⟩ (.slice A2 i c2)) w.heap.size (.slice A2 i c2) i (pings i) := ownF19_keep hO (fun k hk => hK8.block k (ownF19_lt hO k hk).2 (by
        rintro rfl
        rcases hO.2 with ⟨h, _⟩ | ⟨q, cap, cur, h, _, hq, _⟩
        · rw [h] at hk; cases hk
        · rw [h] at hk
          injection hk with hk
          subst hk
          exact absurd (At.type_eq (l := cur.toList) hq hX) (by decide)))
      have hB8 := hK8.below hB hB.size (fun j hj => by omega)
      have cf : wr.cell? ⟨w.heap.size, 4, none⟩ = some (.slice A i c) := hX.cell 4
      have ff := hX.frozen 4
      have HX8 : Hid (At (wr.setCell ⟨w.heap.size, 4, none⟩ (.slice A2 i c2)) w.heap.size 31 (pkC ⟨n, t, s, a, A2, i, c2⟩)) := Lib.hid hX8
      have H8 := Lib.hid (And.intro hZ8 (And.intro hO8 hB8))
      clear hX8 hZ8 hO8 hB8 hK8 hX hZ hO hB HROW
      go_wp2_with (first | ((with_reducible refine at_ldp ?_); refine ld_pm _ 0 ⟨n, t, s, a, A2, i, c2⟩ (by rfl) HX8.out.pk ?_) | ((with_reducible refine at_stp ?_); refine st_pat _ _ ⟨n, t, s, a, A2, i, c2⟩ (by rfl) (by rfl) H8.out.1 (by rfl) ?_; intro w9 hZ9 hK9) | fail)
      refine bodyPost_ret (results_cell 2 31 (by rfl) _ 31 _ _ (by rfl) hZ9 Try.underlying31 rfl pk_size) rfl ?_
      have hlt9 := H8.out.1.lt
      have hb9 := hK9.below H8.out.2.2 (by omega) (fun j hj => by omega)
      refine ⟨A2, c2, rfl, ⟨ownF19_keep H8.out.2.1 (fun k hk => hK9.block k (ownF19_lt H8.out.2.1 k hk).2 ?_), hk1⟩, hb9⟩
      rintro rfl
      change (Value.slice A2 i c2).ownBlock = some (w.heap.size + 1) at hk
      rcases H8.out.2.1.2 with ⟨h, _⟩ | ⟨q, cap, cur, h, _, hq, _⟩
      · rw [h] at hk; cases hk
      · rw [h] at hk
        injection hk with hk
        subst hk
        exact absurd (At.type_eq (l := cur.toList) hq H8.out.1) (by decide)
end Go.Proofs.Ytpihgikcgkipaaa
