/-
  The document's buffer: Next of any kind; Waits.
-/
import Derived.Test.YtoakahofiodbhaaDy
import Derived.Test.YtoakahofiodbhaaStru
import Derived.Test.YtoakahofiodbhaaDz
namespace Go.Proofs.Ytoakahofiodbhaa
set_option linter.unusedVariables false
set_option linter.unusedSimpArgs false
open Go.RowKit
theorem fromO_in {S : OS} (h : S.ok) (most limit : Nat) : (fromO S most limit).1 ≤ (fromO S most limit).2 ∧ (fromO S most limit).2 ≤ S.bs.length := by
  have hg := h.gl
  have hf := firstO_le S
  have hr := runF_le S.ag (min most (S.gn - firstO S)) (firstO S)
  unfold fromO
  split <;> dsimp only <;> omega
theorem rb_size : (Try.prog.info? 33).map (·.size) = some 8 := by kernel_rfl
section
variable {ops : Array Oper} {rest : List Oper} {a : Act} {w : World} {Q : Exit → Act → World → Prop} {dst : Option Tmp} {x y : Operand} {t : TypeId} {pos : String} {after : Array Edge}
theorem at_ldB (h : wpList Try.prog ops Q (⟨dst, .load 33 x, t, pos, after, none⟩ :: rest) a w) : wpList Try.prog ops Q (⟨dst, .load 33 x, t, pos, after, none⟩ :: rest) a w := h
theorem at_stB (h : wpList Try.prog ops Q (⟨dst, .store 33 x y, t, pos, after, none⟩ :: rest) a w) : wpList Try.prog ops Q (⟨dst, .store 33 x y, t, pos, after, none⟩ :: rest) a w := h
end
theorem Ow_base0 {w : World} {base base' : Nat} {T : TypeId} {v : Value} {xs : List Value} (h : Ow w base T v xs) (hb : base' ≤ base) : Ow w base' T v xs := by
  refine ⟨h.1, ?_⟩
  rcases h.2 with h2 | ⟨g, cap, cur, h2, h3, h4⟩
  · exact .inl h2
  · exact .inr ⟨g, cap, cur, h2, Nat.le_trans hb h3, h4⟩
def rcs0 : List Value := rcs (.slice none 0 0) (.slice none 0 0) (.slice none 0 0) 0 false false false false
theorem ow_src0 {w : World} {base m c : Nat} {T : TypeId} {A : Option Addr} {xs : List Value} (h : Ow w base T (.slice A m c) xs) : 0 < m → ∃ ad, A = some ad ∧ ∀ j u, xs[j]? = some u → w.cell? (ad.add j) = some u := by
  obtain ⟨A', c', e, _, _, ho⟩ := ow_open h
  injection e with e1 e2 e3
  intro hm
  rcases ho with ⟨_, _, hx⟩ | ⟨g, cur, hA, _, _, hat, hl, ht⟩
  · subst hx
    simp at e2
    omega
  · refine ⟨_, e1.trans hA, fun j u hj => ?_⟩
    rw [Addr.add_lit, Nat.zero_add, hat.cell]
    have hj' : (cur.take xs.length)[j]? = some u := by rw [ht]; exact hj
    rw [List.getElem?_take] at hj'
    split at hj'
    · exact hj'
    · cases hj'
section
variable {w : World} {base q o : Nat} {T : TypeId} {L : List Value} {O : Nat → Prop} {S : OS}
theorem rnext_any (h : Rs w base q o T L O S) (hok : S.ok) (hb : base ≤ w.heap.size) (hL : S.bs.length ≤ 1000000) (most : Int) (hm : -9223372036854775808 ≤ most ∧ most < 4611686018427387904) (limit : Nat) (hl : limit < 18446744073709551616) :
    Calls Try.prog 23 #[.pointer (some ⟨q, o, none⟩), .int .i64 most, .int .u64 limit] w (RNPost base q o T L O S most.toNat limit w) := by
  obtain ⟨h1, h2⟩ := fromO_in hok most.toNat limit
  rcases hf : fromO S most.toNat limit with ⟨i, k⟩
  rw [hf] at h1 h2
  by_cases e : i = k
  · subst e
    exact rnext_a h hok hL most hm limit hl i hf
  · exact rnext_b h hok hb hL most hm limit hl i k hf (Nat.lt_of_le_of_ne h1 e) h2
set_option maxHeartbeats 8000000 in
set_option maxRecDepth 100000 in
theorem rwaits_any (h : Rs w base q o T L O S) (hok : S.ok) (hb : base ≤ w.heap.size) (hL : S.bs.length ≤ 1000000) (limit : Nat) (hl : limit < 18446744073709551616) :
    Calls Try.prog 38 #[.pointer (some ⟨q, o, none⟩), .int .u64 limit] w fun e w' => e = .returned (.bool (waitsO S limit)) ∧ Kept (fun _ => False) w w' := by
  obtain ⟨Ab, cb, Aa, ca, Ag, cg, C, A, hO, hr, hrf, l1, l2⟩ := h.open_
  obtain ⟨W1, hW1⟩ : ∃ W1, W1 = w.alloc (.cells (rcs (.slice Ab S.bs.length cb) (.slice Aa S.bs.length ca) (.slice Ag S.bs.length cg) S.gn S.ov S.en S.ea S.el).toArray 33) := ⟨_, rfl⟩
  have hs1 : W1.heap.size = w.heap.size + 1 := by rw [hW1]; simp
  have k1 : Below w.heap.size w W1 := by rw [hW1]; exact (Below.refl _ _).alloc (Nat.le_refl _) _
  have a1 : At W1 w.heap.size 33 (rcs (.slice Ab S.bs.length cb) (.slice Aa S.bs.length ca) (.slice Ag S.bs.length cg) S.gn S.ov S.en S.ea S.el) := by rw [hW1]; exact At.new _ _ _
  have HRG : Hid (w.rangeAt q o (rcs (.slice Ab S.bs.length cb) (.slice Aa S.bs.length ca) (.slice Ag S.bs.length cg) S.gn S.ov S.en S.ea S.el)) := Lib.hid (fun j v hv => hr.cell j hv)
  have k2 : Below W1.heap.size W1 (W1.alloc (.cells #[] 4)) := (Below.refl _ _).alloc (Nat.le_refl _) _
  have k12 : Below w.heap.size w (W1.alloc (.cells #[] 4)) := k1.trans (k2.mono k1.size)
  have r2 := hr.below k12
  have z2 : (W1.alloc (.cells #[] 4)).cell? ⟨q, o + 2, none⟩ = some (.slice Ag S.bs.length cg) := r2.cell 2 rfl
  have hsrc := ow_src0 r2.og
  have hown : Ow (W1.alloc (.cells #[] 4)) W1.heap.size 4 (.slice (some ⟨W1.heap.size, 0, none⟩) 0 0) [] := ⟨rfl, .inr ⟨_, 0, _, rfl, Nat.le_refl _, heap_alloc_new W1 _, Nat.le_refl _, by unfold maxLen; omega, rfl, rfl⟩⟩
  have hs2 : W1.heap.size ≤ (W1.alloc (.cells #[] 4)).heap.size := by simp
  have hlen : (A.map Value.bool).length = S.bs.length := by rw [List.length_map, l2]
  have HONE : Hid (∀ u ∈ A.map Value.bool, u.oneCell' = true) := Lib.hid (fun u hu => by obtain ⟨x, _, rfl⟩ := List.mem_map.1 hu; rfl)
  have HNL : Hid (([] : List Value).length + S.bs.length ≤ 70368744177664) := Lib.hid (by simp; omega)
  have HC : Hid (∀ (w5 : World) (v5 : Value), Ow w5 W1.heap.size 4 v5 (A.map Value.bool) → (W1.alloc (.cells #[] 4)).grownBy w5 (Value.slice (some ⟨W1.heap.size, 0, none⟩) 0 0).ownBlock →
      Calls Try.prog 23 #[.pointer (some ⟨w.heap.size, 0, none⟩), .int .i64 1, .int .u64 limit] (w5.setCell ⟨w.heap.size, 2, none⟩ v5) (fun e w' => ∃ x y z, e = .returned (.tuple #[x, y, z, .bool (waitsO S limit)]) ∧ Kept (fun _ => False) w w') ∧
      w5.cell? ⟨w.heap.size, 2, none⟩ = some (.slice Ag S.bs.length cg) ∧ w5.frozen? ⟨w.heap.size, 2, none⟩ = false) := Lib.hid (fun w5 v5 ho hg => by
    have k5 : Below W1.heap.size W1 w5 := k2.grown hg hs2 (fun x hx => (ow_lt hown x hx).1)
    have a5 := a1.below k5 (by omega)
    have hle : base ≤ w.heap.size := hb
    have k05 : Below w.heap.size w w5 := k1.trans (k5.mono k1.size)
    have r5 := hr.below k05
    have kS : Kept (fun x => x = w.heap.size) w5 (w5.setCell ⟨w.heap.size, 2, none⟩ v5) := (Kept.refl (fun x => x = w.heap.size) w5).setCell (p := ⟨w.heap.size, 2, none⟩) (.inl rfl) _
    have hvl : ∀ j, v5.ownBlock = some j → W1.heap.size ≤ j := fun j hj => (ow_lt ho j hj).1
    have hol : ∀ i j : Nat, i = 1 ∨ i = 2 → (robs q (.slice Ab S.bs.length cb) (.slice Aa S.bs.length ca) (.slice Ag S.bs.length cg))[i]? = some (some j) → j < w.heap.size := fun i j _ hj => hr.obs_lt i j hj
    have hN := rnext_any (w := w5.setCell ⟨w.heap.size, 2, none⟩ v5) (base := base) (q := w.heap.size) (o := 0) (T := 33) (L := rcs (.slice Ab S.bs.length cb) (.slice Aa S.bs.length ca) v5 S.gn S.ov S.en S.ea S.el) (S := S)
      ⟨_, _, v5, C, A, rfl, ⟨a5.set 2 v5, fun j u hj => by rw [Nat.zero_add]; exact hj, r5.ob.kept kS (fun j hj e => by have := hol 1 j (.inl rfl) (by rw [← hj]; rfl); omega), ow_kept r5.oa kS (fun j hj e => by have := hol 2 j (.inr rfl) (by rw [← hj]; rfl); omega), ow_kept (Ow_base0 ho (by omega)) kS (fun j hj e => by have := hvl j hj; omega), ?_, hle⟩, hrf⟩ hok (by have := kS.size; have := k05.size; omega) hL 1 (by omega) limit hl
    · refine ⟨hN.mono fun e w' he => ?_, a5.cell 2, a5.frozen 2⟩
      obtain ⟨v, e1, _, L', O', _, _, hk, _⟩ := he
      refine ⟨_, _, _, e1, ?_⟩
      refine ((Kept.of_below k05 (fun _ => False)).trans' kS fun j hj => .inr (by omega)).trans' hk fun j hj => .inr ?_
      rcases hj with rfl | ⟨v, hv, hj⟩
      · exact Nat.le_refl _
      · injection hv with hv
        subst hv
        have := hvl j hj
        omega
    · intro i j k hi hj
      have key : ∀ i k : Nat, (robs w.heap.size (.slice Ab S.bs.length cb) (.slice Aa S.bs.length ca) v5)[i]? = some (some k) → (i = 0 ∧ k = w.heap.size) ∨ (i = 3 ∧ W1.heap.size ≤ k) ∨ ((i = 1 ∨ i = 2) ∧ (robs q (.slice Ab S.bs.length cb) (.slice Aa S.bs.length ca) (.slice Ag S.bs.length cg))[i]? = some (some k)) := fun i k hi => by
        rcases i with _ | _ | _ | _ | i
        · injection hi with hi; injection hi with hi; exact .inl ⟨rfl, hi.symm⟩
        · exact .inr (.inr ⟨.inl rfl, hi⟩)
        · exact .inr (.inr ⟨.inr rfl, hi⟩)
        · injection hi with hi; exact .inr (.inl ⟨rfl, hvl k hi⟩)
        · cases hi
      have k1 := key i k hi
      have k2 := key j k hj
      rcases k1 with ⟨e1, e2⟩ | ⟨e1, e2⟩ | ⟨e1, e2⟩ <;> rcases k2 with ⟨e3, e4⟩ | ⟨e3, e4⟩ | ⟨e3, e4⟩
      · omega
      · omega
      · have := hol j k e3 e4; omega
      · omega
      · omega
      · have := hol j k e3 e4; omega
      · have := hol i k e1 e2; omega
      · have := hol i k e1 e2; omega
      · exact hr.dis i j k e2 e4)
  clear h hO hr hrf l1 l2 r2 k1 k2 k12 hb hok a1 hs1
  generalize A.map Value.bool = XA at *
  have HW1 := Lib.hid hW1
  clear hW1
  go_enter Try.func38, Try.ntmps38
  go_wp2_with (first
    | ((with_reducible refine at_ldB ?_); refine wpList_load_mid rfl _ _ rfl q o (by rfl) (rcs (.slice Ab S.bs.length cb) (.slice Aa S.bs.length ca) (.slice Ag S.bs.length cg) S.gn S.ov S.en S.ea S.el) _ HRG.out Try.underlying33 rfl rb_size ?_)
    | ((with_reducible refine at_stB ?_); refine wpList_store_top w 33 rcs0 (rcs (.slice Ab S.bs.length cb) (.slice Aa S.bs.length ca) (.slice Ag S.bs.length cg) S.gn S.ov S.en S.ea S.el) (by rfl) _ (by rfl) (by rfl) (by rfl) (by rfl) rb_size (by rfl) ?_; rw [← HW1.out])
    | (at_builtin; refine wpList_app1 oBd rfl (.tmp 13) (.tmp 17) rfl W1.heap.size _ [] rfl hown Ag S.bs.length cg rfl XA hlen hsrc HONE.out HNL.out hs2 ?_; intro v5 w5 hown5 hg5 _ _; rw [List.nil_append] at hown5; have hc5 := HC.out w5 v5 hown5 hg5; obtain ⟨A5, c5, e5, _, _, _⟩ := ow_open hown5; rw [hlen] at e5; subst e5; have z5 := hc5.2.1; have zf5 := hc5.2.2; have HCC := Lib.hid hc5.1; clear hc5 hown5 hg5)
    | (go_at_call 23; (with_reducible refine HCC.out.mono ?_); rintro ez w6 ⟨x6, y6, z6, rfl, hk6⟩))
  go_ret
  exact ⟨rfl, hk6⟩
end
end Go.Proofs.Ytoakahofiodbhaa
