/-
  The law's calls: Add on both sides.
-/
import Derived.Test.YtpihgikcgkipaaaVa
import Derived.Test.YtpihgikcgkipaaaUn
namespace Go.Proofs.Ytpihgikcgkipaaa
set_option linter.unusedVariables false
set_option linter.unusedSimpArgs false
open Go.RowKit
def cBad (nx : Int) (c : PC) : Bool := decide (c.n < nx) || decide (4611686018427387903 ≤ c.n) || decide (c.t < 0) || decide (c.s < 0) || decide (512 < c.s)
theorem cBad_core (nx : Int) (r : PK) : addBad nx r = cBad nx r.core := rfl
/-- What an Add makes of a ledger, of what is compared alone. -/
def AddR (nx : Int) (C : List PC) (c : PC) (err nx' : Int) (C' : List PC) : Prop :=
  (cBad nx c = true ∧ err = 1 ∧ nx' = nx ∧ C' = C) ∨ (cBad nx c = false ∧ c.a = true ∧ 64 ≤ C.length ∧ err = 13 ∧ nx' = nx ∧ C' = C) ∨
  (cBad nx c = false ∧ (c.a = true → C.length < 64) ∧ err = 0 ∧ nx' = c.n + 1 ∧ C' = if c.a then C ++ [c] else C)
theorem AddR.one {nx : Int} {C : List PC} {c : PC} {e1 n1 e2 n2 : Int} {C1 C2 : List PC} (x : AddR nx C c e1 n1 C1) (y : AddR nx C c e2 n2 C2) : e1 = e2 ∧ n1 = n2 ∧ C1 = C2 := by
  rcases x with ⟨h, rfl, rfl, rfl⟩ | ⟨h, ha, hl, rfl, rfl, rfl⟩ | ⟨h, ha, rfl, rfl, rfl⟩
  · rcases y with ⟨_, rfl, rfl, rfl⟩ | ⟨k, _⟩ | ⟨k, _⟩
    · exact ⟨rfl, rfl, rfl⟩
    · rw [h] at k; cases k
    · rw [h] at k; cases k
  · rcases y with ⟨k, _⟩ | ⟨_, _, _, rfl, rfl, rfl⟩ | ⟨_, k, _⟩
    · rw [h] at k; cases k
    · exact ⟨rfl, rfl, rfl⟩
    · have := k ha; omega
  · rcases y with ⟨k, _⟩ | ⟨_, k, l, _⟩ | ⟨_, _, rfl, rfl, rfl⟩
    · rw [h] at k; cases k
    · have := ha k; omega
    · exact ⟨rfl, rfl, rfl⟩
theorem AddR.gk {nx ak : Int} {C : List PC} {c : PC} {e n : Int} {C' : List PC} (x : AddR nx C c e n C') (h : Gk nx ak C) : Gk n ak C' := by
  rcases x with ⟨_, rfl, rfl, rfl⟩ | ⟨_, _, _, rfl, rfl, rfl⟩ | ⟨hb, hl, rfl, rfl, rfl⟩
  · exact h
  · exact h
  · unfold cBad at hb
    simp only [Bool.or_eq_false_iff, decide_eq_false_iff_not] at hb
    obtain ⟨⟨⟨⟨c1, c2⟩, c3⟩, c4⟩, c5⟩ := hb
    have h0 := h.nx0
    cases ha : c.a
    · simp only [Bool.false_eq_true, if_false]
      exact ⟨h.rise, fun d hd => by have := h.ok d hd; exact ⟨this.1, by omega, this.2.2⟩, h.len, by omega, h.ak0⟩
    · simp only [if_true]
      have hl2 := hl ha
      refine ⟨List.pairwise_append.2 ⟨h.rise, List.pairwise_singleton _ _, fun d hd e he => ?_⟩, fun d hd => ?_, by rw [List.length_append, List.length_singleton]; omega, by omega, h.ak0⟩
      · rw [List.mem_singleton] at he
        subst he
        have := h.ok d hd
        omega
      · rcases List.mem_append.1 hd with hd | hd
        · have := h.ok d hd
          exact ⟨this.1, by omega, this.2.2⟩
        · rw [List.mem_singleton] at hd
          subst hd
          exact ⟨by omega, by omega, by omega, by omega, ha⟩
section
variable {B p q : Nat} {nx ak : Int} {hd : Bool} {v : Value} {l : PL} {w : World}
def AddU (B p : Nat) (nx ak : Int) (hd : Bool) (v : Value) (l : PL) (r : PK) (w : World) (e : Ending) (w' : World) : Prop :=
  ∃ err nx' v' l', e = .returned (.int .i64 err) ∧ LV w' B p nx' ak hd v' l' ∧ Kept (fun j => j = p ∨ v.ownBlock = some j) w w' ∧ (∀ j, v'.ownBlock = some j → v.ownBlock = some j ∨ w.heap.size ≤ j) ∧ AddR nx (l.map PK.core) r.core err nx' (l'.map PK.core)
def RAddU (B q : Nat) (nx ak : Int) (hd : Bool) (v : Value) (l : PL) (r : PK) (w : World) (e : Ending) (w' : World) : Prop :=
  ∃ err nx' v' l', e = .returned (.int .i64 err) ∧ RV w' B q nx' ak hd v' l' ∧ Kept (· = q) w w' ∧ (∀ j, v'.ownBlock = some j → v.ownBlock = some j ∨ w.heap.size ≤ j) ∧ AddR nx (l.map PK.core) r.core err nx' (l'.map PK.core)
theorem saddU (hs : LV w B p nx ak hd v l) (r : PK) (hf : FrOk w B r) (hg : Gk nx ak (l.map PK.core)) : Calls Try.prog 10 #[.pointer (some ⟨p, 0, none⟩), .agg (pkC r).toArray] w (AddU B p nx ak hd v l r w) :=
  (sadd_any hs r hf (by rw [len_core]; exact hg.len) hg.nx0.1).mono fun e w' h => by
    rcases h with ⟨h1, h2, h3⟩ | ⟨h1, h2, h3, h4, h5⟩ | ⟨h1, h2, h3, v', A, c, h4, h5, h6⟩
    · exact ⟨_, nx, v, l, h2, hs.below h3, Kept.of_below h3 _, fun j hj => .inl hj, .inl ⟨h1, rfl, rfl, rfl⟩⟩
    · exact ⟨_, nx, v, l, h4, hs.below h5, Kept.of_below h5 _, fun j hj => .inl hj, .inr (.inl ⟨h1, h2, by rw [← len_core]; exact h3, rfl, rfl, rfl⟩)⟩
    · refine ⟨_, _, v', _, h3, h4, h5, h6, .inr (.inr ⟨h1, fun ha => by rw [← len_core]; exact h2 ha, rfl, rfl, ?_⟩)⟩
      cases ha : r.a
      · have hc : r.core.a = false := ha
        rw [hc]; rfl
      · have hc : r.core.a = true := ha
        rw [hc, if_pos rfl, if_pos rfl, List.map_append]; rfl
theorem raddU (hs : RV w B q nx ak hd v l) (r : PK) (hg : Gk nx ak (l.map PK.core)) : Calls Try.prog 23 #[.pointer (some ⟨q, 0, none⟩), .agg (pkC r).toArray] w (RAddU B q nx ak hd v l r w) :=
  (radd_any hs r (by rw [len_core]; exact hg.len) hg.nx0.1).mono fun e w' h => by
    rcases h with ⟨h1, h2, h3⟩ | ⟨h1, h2, h3, h4, h5⟩ | ⟨h1, h2, h3, v', h4, h5, h6⟩
    · exact ⟨_, nx, v, l, h2, hs.below h3, Kept.of_below h3 _, fun j hj => .inl hj, .inl ⟨h1, rfl, rfl, rfl⟩⟩
    · exact ⟨_, nx, v, l, h4, hs.below h5, Kept.of_below h5 _, fun j hj => .inl hj, .inr (.inl ⟨h1, h2, by rw [← len_core]; exact h3, rfl, rfl, rfl⟩)⟩
    · refine ⟨_, _, v', _, h3, h4, h5, h6, .inr (.inr ⟨h1, fun ha => by rw [← len_core]; exact h2 ha, rfl, rfl, ?_⟩)⟩
      cases ha : r.a
      · have hc : r.core.a = false := ha
        rw [hc]; rfl
      · have hc : r.core.a = true := ha
        rw [hc, if_pos rfl, if_pos rfl, List.map_append]; rfl
end
/-- Both sides of an Add: the ledgers tell the same behind it. -/
theorem Sx.adds {w0 : GW} {w w1 w2 : World} {B p q : Nat} {nx ak : Int} {hd : Bool} {v1 v2 : Value} {l1 l2 : PL} {c : PC} {e1 n1 e2 n2 : Int} {r1 r2 : Value} {L1 L2 : PL} (h : Sx w0 w B p q nx ak hd v1 v2 l1 l2)
    (hl : LV w1 B p n1 ak hd r1 L1) (hk1 : Kept (fun j => j = p ∨ v1.ownBlock = some j) w w1) (hf1 : ∀ j, r1.ownBlock = some j → v1.ownBlock = some j ∨ w.heap.size ≤ j) (x : AddR nx (l1.map PK.core) c e1 n1 (L1.map PK.core))
    (hr : RV w2 B q n2 ak hd r2 L2) (hk2 : Kept (· = q) w1 w2) (hf2 : ∀ j, r2.ownBlock = some j → v2.ownBlock = some j ∨ w1.heap.size ≤ j) (y : AddR nx (l2.map PK.core) c e2 n2 (L2.map PK.core)) :
    e1 = e2 ∧ Sx w0 w2 B p q n1 ak hd r1 r2 L1 L2 := by
  have y' := y
  rw [← h.core] at y'
  obtain ⟨c1, c2, c4⟩ := x.one y'
  subst c2
  have hb1 := h.blKept hk1
  have hq := (h.rvKept hk1).at_
  have hq1 : ∀ j, r1.ownBlock = some j → ¬ j = q := fun j hj e => by
    obtain ⟨cur, hA⟩ := ownG_type hl.own j hj
    rw [e] at hA
    exact absurd (hA.type_eq hq) (by decide)
  have hnq : NoFr w1 (· = q) := NoFr.of_type fun j hj => by
    subst hj
    exact ⟨_, _, hq, by decide⟩
  refine ⟨c1, hl.kept hk2 h.pq hq1 hnq, hr, c4, x.gk h.gk, fun j hj hj2 => ?_, hk2.below hb1 (Nat.le_trans h.sz hk1.size) (fun j hj => by rw [hj]; exact hr.bq), Nat.le_trans (Nat.le_trans h.sz hk1.size) hk2.size, (h.kp.step hk1 (fun g hg => hg.elim .inl (fun e => .inr (.inr (.inl e)))) hf1 (fun j hj => .inl hj)).step hk2 (fun g hg => .inr (.inl hg)) (fun j hj => .inl hj) hf2⟩
  have hlt := (ownG_lt hl.own j hj).2
  rcases hf2 j hj2 with h6 | h6
  · rcases hf1 j hj with h5 | h5
    · exact h.off j h5 h6
    · have := (ownG_lt h.rv.own j h6).2
      omega
  · omega
end Go.Proofs.Ytpihgikcgkipaaa
