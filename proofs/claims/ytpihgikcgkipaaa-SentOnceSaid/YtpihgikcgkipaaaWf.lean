/-
  SentOnce: what stays in memory; the loops that take the packets that came out.
-/
import Derived.Test.YtpihgikcgkipaaaWd
import Derived.Test.YtpihgikcgkipaaaWe
import Derived.Laws.StructEq
namespace Go.Proofs.Ytpihgikcgkipaaa
set_option linter.unusedVariables false
set_option linter.unusedSimpArgs false
open Go.RowKit
/-- The ledger at p, what was put at b6, what came out at b7. -/
structure Mo (w0 W : World) (p b6 b7 : Nat) (nx ak : Int) (hd : Bool) (v : Value) (l : PL) (f g : Nat → Bool) : Prop where
  lv : LV W w0.heap.size p nx ak hd v l
  tf : At W b6 45 (tab6 f)
  tg : At W b7 45 (tab6 g)
  n67 : b6 ≠ b7
  l6 : w0.heap.size ≤ b6
  l7 : w0.heap.size ≤ b7
  bl : Below w0.heap.size w0 W
section
variable {w0 W W' : World} {p b6 b7 : Nat} {nx ak nx' ak' : Int} {hd hd' : Bool} {v v' : Value} {l l' : PL} {f g : Nat → Bool}
theorem Mo.p6 (h : Mo w0 W p b6 b7 nx ak hd v l f g) : b6 ≠ p := fun e => by
  have h1 := h.lv.at_
  rw [← e] at h1
  exact absurd (h1.type_eq h.tf) (by decide)
theorem Mo.p7 (h : Mo w0 W p b6 b7 nx ak hd v l f g) : b7 ≠ p := fun e => by
  have h1 := h.lv.at_
  rw [← e] at h1
  exact absurd (h1.type_eq h.tg) (by decide)
theorem Mo.v6 (h : Mo w0 W p b6 b7 nx ak hd v l f g) : v.ownBlock ≠ some b6 := fun e => by
  obtain ⟨cur, hA⟩ := ownG_type h.lv.own b6 e
  exact absurd (hA.type_eq h.tf) (by decide)
theorem Mo.v7 (h : Mo w0 W p b6 b7 nx ak hd v l f g) : v.ownBlock ≠ some b7 := fun e => by
  obtain ⟨cur, hA⟩ := ownG_type h.lv.own b7 e
  exact absurd (hA.type_eq h.tg) (by decide)
theorem Mo.below (h : Mo w0 W p b6 b7 nx ak hd v l f g) (k : Below W.heap.size W W') : Mo w0 W' p b6 b7 nx ak hd v l f g :=
  ⟨h.lv.below k, h.tf.below k h.tf.lt, h.tg.below k h.tg.lt, h.n67, h.l6, h.l7, h.bl.trans (k.mono h.bl.size)⟩
/-- A call that changes the ledger alone. -/
theorem Mo.call (h : Mo w0 W p b6 b7 nx ak hd v l f g) (hl : LV W' w0.heap.size p nx' ak' hd' v' l') (k : Kept (fun j => j = p ∨ v.ownBlock = some j) W W') : Mo w0 W' p b6 b7 nx' ak' hd' v' l' f g :=
  ⟨hl, h.tf.kept k (fun e => e.elim h.p6 h.v6), h.tg.kept k (fun e => e.elim h.p7 h.v7), h.n67, h.l6, h.l7, k.below h.bl h.bl.size (fun j hj => by
    rcases hj with hj | hj
    · rw [hj]; exact h.lv.bp
    · exact (ownG_lt h.lv.own j hj).1)⟩
theorem Mo.put6 (h : Mo w0 W p b6 b7 nx ak hd v l f g) {k : Nat} (hk : k < 60) (b : Bool) : Mo w0 (W.setCell ⟨b6, k, none⟩ (.bool b)) p b6 b7 nx ak hd v l (fun t => if t = k then b else f t) g := by
  have hkp : Kept (· = b6) W (W.setCell ⟨b6, k, none⟩ (.bool b)) := (Kept.refl _ W).setAt k _
  exact ⟨h.lv.kept hkp (fun e => h.p6 e.symm) (fun j hj e => h.v6 (e ▸ hj)) (NoFr.of_type fun j hj => by subst hj; exact ⟨_, _, h.tf, by decide⟩), by rw [← tab6_set f hk]; exact h.tf.set k _, h.tg.kept hkp (fun e => h.n67 e.symm), h.n67, h.l6, h.l7, h.bl.setCell h.l6 _⟩
theorem Mo.put7 (h : Mo w0 W p b6 b7 nx ak hd v l f g) {k : Nat} (hk : k < 60) (b : Bool) : Mo w0 (W.setCell ⟨b7, k, none⟩ (.bool b)) p b6 b7 nx ak hd v l f (fun t => if t = k then b else g t) := by
  have hkp : Kept (· = b7) W (W.setCell ⟨b7, k, none⟩ (.bool b)) := (Kept.refl _ W).setAt k _
  exact ⟨h.lv.kept hkp (fun e => h.p7 e.symm) (fun j hj e => h.v7 (e ▸ hj)) (NoFr.of_type fun j hj => by subst hj; exact ⟨_, _, h.tg, by decide⟩), h.tf.kept hkp h.n67, by rw [← tab6_set g hk]; exact h.tg.set k _, h.n67, h.l6, h.l7, h.bl.setCell h.l7 _⟩
end
/-- What holds ahead of each round. -/
structure Rd6 (w0 W : World) (p b6 b7 i : Nat) (ak : Int) (hd : Bool) (v : Value) (l : PL) (f g : Nat → Bool) : Prop where
  mo : Mo w0 W p b6 b7 i ak hd v l f g
  mi : Mi i l f g
  a0 : 0 ≤ ak ∧ ak ≤ 100
/-- Where an Add of the next number leads. -/
theorem add6 {w0 W : World} {p b6 b7 i : Nat} {ak : Int} {hd : Bool} {v : Value} {l : PL} {f g : Nat → Bool} (h : Rd6 w0 W p b6 b7 i ak hd v l f g) (hi : i < 60) (x : Bool) :
    Calls Try.prog 10 #[.pointer (some ⟨p, 0, none⟩), .agg #[.int .u64 i, .int .i64 0, .int .i64 0, .bool x, .slice none 0 0]] W fun e w' => e = .returned (.int .i64 0) ∧ ∃ v' l', Mo w0 w' p b6 b7 (i + 1 : Nat) ak hd v' l' f g ∧ Mi (i + 1) l' (fun t => if t = i then x else f t) g := by
  refine (sadd_yes h.mo.lv ⟨(i : Int), 0, 0, x, none, 0, 0⟩ (FrOk.nil_ _ _ _ _ _ _) (by have := h.mi.ln; omega) (by omega) (by unfold addBad; simp; omega) (fun _ => by have := h.mi.ln; omega)).mono fun e w' hh => ?_
  obtain ⟨rfl, v', A, c, hl, hk, _⟩ := hh
  exact ⟨rfl, v', _, h.mo.call hl hk, h.mi.add x (PK.put ⟨(i : Int), 0, 0, x, none, 0, 0⟩ A c) rfl⟩
/-- Where an Ack leads. -/
theorem ack6 {w0 W : World} {p b6 b7 i : Nat} {ak : Int} {hd : Bool} {v : Value} {l : PL} {f g : Nat → Bool} (h : Rd6 w0 W p b6 b7 i ak hd v l f g) (hi : i ≤ 60) (P : Nat → Prop) (A : Option Addr) (n c : Nat) (rs : RL) (hr : RnP W P A n rs) (hP : ¬ P p) (hnc : n ≤ c) (hcm : c ≤ maxLen) (hn : n ≤ 400000) :
    Calls Try.prog 12 #[.pointer (some ⟨p, 0, none⟩), .slice A n c] W fun e w' => ∃ vg vl er ak' hd' vr Lg Ll L', e = .returned (.tuple #[vg, vl, .int .i64 er]) ∧ Mo w0 w' p b6 b7 i ak' hd' vr L' f g ∧ OwnP w' W.heap.size vg Lg ∧ OwnP w' W.heap.size vl Ll ∧ Spl l (Lg ++ Ll) L' ∧ 0 ≤ ak' ∧ ak' ≤ 100 := by
  refine (sack_any P A n c rs h.mo.lv hr hP hnc hcm hn (by have := h.mi.ln; omega) (fun r hr => by have := h.mi.hl r hr; omega) (by omega) (by have := h.a0; omega)).mono fun e w' hh => ?_
  rcases hh with ⟨_, rfl, hb⟩ | ⟨_, z, hz, ⟨_, rfl, hb⟩ | ⟨h2, vg, vl, vr, rfl, h4, h5, h6, h7, h8⟩⟩
  · exact ⟨_, _, _, ak, hd, v, [], [], l, rfl, h.mo.below hb, ownP_nil _ _, ownP_nil _ _, Spl.none h.mi.nd, h.a0.1, h.a0.2⟩
  · exact ⟨_, _, _, ak, hd, v, [], [], l, rfl, h.mo.below hb, ownP_nil _ _, ownP_nil _ _, Spl.none h.mi.nd, h.a0.1, h.a0.2⟩
  · exact ⟨vg, vl, 0, _, true, vr, _, _, _, rfl, h.mo.call h4 (h7.mono fun j hj => .inl (.inl hj)), h5, h6, Spl.ack (fun n => hasL rs n) (fun n => decide (n + 3 ≤ max ak (z.2 - 1))) h.mi.nd, by have := h.a0; omega, by have := h.a0; omega⟩
theorem srcP {w : World} {base n c : Nat} {A : Option Addr} {l : PL} (h : OwnP w base (.slice A n c) l) : 0 < l.length → ∃ ad, A = some ad ∧ ∀ j u, (plC l)[j]? = some u → w.cell? (ad.add j) = some u := fun hn => by
  obtain ⟨u0, h0⟩ : ∃ u, (plC l)[0]? = some u := ⟨_, List.getElem?_eq_getElem (by rw [plC_len]; omega)⟩
  obtain ⟨g, c', e, _⟩ := ownG_flat h 0 u0 h0
  injection e with e1
  refine ⟨⟨g, 0, none⟩, e1, fun j u hj => ?_⟩
  obtain ⟨g', c'', e', hc⟩ := ownG_flat h j u hj
  injection e' with e2
  rw [e1] at e2
  injection e2 with e2
  injection e2 with e2
  subst e2
  rw [Addr.add_lit, Nat.zero_add]
  exact hc
theorem own0 (w : World) : OwnG (w.alloc (.cells #[] 31)) w.heap.size (.slice (some ⟨w.heap.size, 0, none⟩) 0 0) 0 [] := ⟨rfl, .inr ⟨_, 0, _, rfl, Nat.le_refl _, heap_alloc_new w _, Nat.le_refl _, by unfold maxLen; omega, rfl, rfl⟩⟩
theorem joinP {w : World} {base : Nat} {v : Value} {L M : PL} (h : OwnG w base v (0 + L.length + M.length) ([] ++ plC L ++ plC M)) : OwnP w base v (L ++ M) := by
  have e1 : 0 + L.length + M.length = (L ++ M).length := by rw [List.length_append]; omega
  rw [e1, List.nil_append, ← plC_app] at h
  exact h
/-- What holds while the packets that came out are looked at. -/
structure Lp (w0 W : World) (p b6 b7 nx : Nat) (ak : Int) (hd : Bool) (v : Value) (L : PL) (f g : Nat → Bool) (M : PL) (base : Nat) (A : Option Addr) (n c j : Nat) : Prop where
  mo : Mo w0 W p b6 b7 nx ak hd v L f (addG g (M.take j))
  own : OwnP W base (.slice A n c) M
  nb : ∀ j, (Value.slice A n c).ownBlock = some j → j ≠ b7
theorem Lp.next {w0 W : World} {p b6 b7 nx : Nat} {ak : Int} {hd : Bool} {v : Value} {L : PL} {f g : Nat → Bool} {M : PL} {base : Nat} {A : Option Addr} {n c j k : Nat} (h : Lp w0 W p b6 b7 nx ak hd v L f g M base A n c j) (o : Obj) {r : PK} (hr : M[j]? = some r) (hk : r.n = k) (h60 : k < 60) :
    Lp w0 ((W.setCell ⟨b7, k, none⟩ (.bool true)).alloc o) p b6 b7 nx ak hd v L f g M base A n c (j + 1) := by
  have hm := h.mo.put7 h60 true
  rw [addG_step g M j k r hr hk] at hm
  have hb : Below (W.setCell ⟨b7, k, none⟩ (.bool true)).heap.size (W.setCell ⟨b7, k, none⟩ (.bool true)) ((W.setCell ⟨b7, k, none⟩ (.bool true)).alloc o) := (Below.refl _ _).alloc (Nat.le_refl _) _
  exact ⟨hm.below hb, ownG_below (ownG_kept h.own ((Kept.refl (· = b7) _).setAt k _) (fun x hx e => h.nb x hx e)) hb, h.nb⟩
theorem Lp.last {w0 W : World} {p b6 b7 nx : Nat} {ak : Int} {hd : Bool} {v : Value} {L : PL} {f g : Nat → Bool} {M : PL} {base : Nat} {A : Option Addr} {n c : Nat} (h : Lp w0 W p b6 b7 nx ak hd v L f g M base A n c n) (hn : M.length = n) : Mo w0 W p b6 b7 nx ak hd v L f (addG g M) := by
  have := h.mo
  rw [← hn, List.take_length] at this
  exact this
theorem info6 : (Try.prog.info? 45).map (·.size) = some 60 := by kernel_rfl
section
variable {ops : Array Oper} {rest : List Oper} {a : Act} {w : World} {Q : Exit → Act → World → Prop}
theorem wpList_eql_agg {o : Oper} (hg : Region.wanted o (yielded ops a.tmps) = true) (t ty : TypeId) (x y : Operand) (ho : o.op = .binOp .eql t x y ty) (xs ys : Array Value) (hx : a.eval x = .agg xs) (hy : a.eval y = .agg ys)
    (hm : Try.prog.eqGuardType Try.prog.depth t = false) (b : Bool) (hr : (Op.equalIn 10000 t (.agg xs) (.agg ys)).run Try.prog w = .ok b w) (h : wpList Try.prog ops Q rest (a.put o.dst (.bool b)) w) : wpList Try.prog ops Q (o :: rest) a w := by
  refine wpList_step fun K hK => ?_
  rw [if_pos hg]
  have h1 := run_eqGuard_agg (P := Try.prog) w .eql t x y xs ys hm
  have h2 := run_eql_struct (P := Try.prog) w t xs ys
  rw [hr] at h2
  unfold Oper.wp execOp
  simp only [ho, hx, hy, Sem.run_bind, h1, h2, Result.andThen_ok]
  exact hK _ _ h
theorem at_ld6 {dst : Option Tmp} {x : Operand} {t : TypeId} {pos : String} {after : Array Edge} {g : Option (Nat × Bool)} (h : wpList Try.prog ops Q (⟨dst, .load 45 x, t, pos, after, g⟩ :: rest) a w) : wpList Try.prog ops Q (⟨dst, .load 45 x, t, pos, after, g⟩ :: rest) a w := h
theorem at_eq6 {dst : Option Tmp} {x y : Operand} {t ty : TypeId} {pos : String} {after : Array Edge} {g : Option (Nat × Bool)} (h : wpList Try.prog ops Q (⟨dst, .binOp .eql 45 x y ty, t, pos, after, g⟩ :: rest) a w) : wpList Try.prog ops Q (⟨dst, .binOp .eql 45 x y ty, t, pos, after, g⟩ :: rest) a w := h
theorem ld_6 {dst : Option Tmp} {x : Operand} {t : TypeId} {pos : String} {after : Array Edge} (p : Nat) (f : Nat → Bool) (hx : a.eval x = .pointer (some ⟨p, 0, none⟩)) (hA : At w p 45 (tab6 f)) (h : wpList Try.prog ops Q rest (a.put dst (.agg (tab6 f).toArray)) w) :
    wpList Try.prog ops Q (⟨dst, .load 45 x, t, pos, after, none⟩ :: rest) a w :=
  wpList_load_at p _ _ _ hx hA Try.underlying45 rfl (by rw [tab6_len]; exact info6) h
end
end Go.Proofs.Ytpihgikcgkipaaa
