/-
  The law's calls: Ack on both sides.
-/
import Derived.Test.YtpihgikcgkipaaaUt
import Derived.Test.YtpihgikcgkipaaaUo
import Derived.Test.YtpihgikcgkipaaaUv
namespace Go.Proofs.Ytpihgikcgkipaaa
set_option linter.unusedVariables false
set_option linter.unusedSimpArgs false
open Go.RowKit
/-- What an acknowledgement makes of a ledger, of what is compared alone. -/
def AckR (nx ak : Int) (hd : Bool) (C : List PC) (rs : RL) (err ak' : Int) (hd' : Bool) (C' Cg Cl : List PC) : Prop :=
  (¬ MayR rs ∧ err = 1 ∧ ak' = ak ∧ hd' = hd ∧ C' = C ∧ Cg = [] ∧ Cl = []) ∨
  (MayR rs ∧ ∃ z, rs[rs.length - 1]? = some z ∧ ((nx < z.2 ∧ err = 14 ∧ ak' = ak ∧ hd' = hd ∧ C' = C ∧ Cg = [] ∧ Cl = []) ∨
    (z.2 ≤ nx ∧ err = 0 ∧ ak' = max ak (z.2 - 1) ∧ hd' = true ∧ C' = (C.filter (fun c => !hasL rs c.n)).filter (fun c => !decide (c.n + 3 ≤ max ak (z.2 - 1))) ∧ Cg = C.filter (fun c => hasL rs c.n) ∧ Cl = (C.filter (fun c => !hasL rs c.n)).filter (fun c => decide (c.n + 3 ≤ max ak (z.2 - 1))))))
theorem AckR.one {nx ak : Int} {hd : Bool} {C : List PC} {rs : RL} {e1 a1 : Int} {h1 : Bool} {C1 g1 k1 : List PC} {e2 a2 : Int} {h2 : Bool} {C2 g2 k2 : List PC} (x : AckR nx ak hd C rs e1 a1 h1 C1 g1 k1) (y : AckR nx ak hd C rs e2 a2 h2 C2 g2 k2) :
    e1 = e2 ∧ a1 = a2 ∧ h1 = h2 ∧ C1 = C2 ∧ g1 = g2 ∧ k1 = k2 := by
  rcases x with ⟨m1, rfl, rfl, rfl, rfl, rfl, rfl⟩ | ⟨m1, z1, hz1, x⟩
  · rcases y with ⟨_, rfl, rfl, rfl, rfl, rfl, rfl⟩ | ⟨m2, _⟩
    · exact ⟨rfl, rfl, rfl, rfl, rfl, rfl⟩
    · exact absurd m2 m1
  · rcases y with ⟨m2, _⟩ | ⟨_, z2, hz2, y⟩
    · exact absurd m1 m2
    · rw [hz1] at hz2
      injection hz2 with hz2
      subst hz2
      rcases x with ⟨n1, rfl, rfl, rfl, rfl, rfl, rfl⟩ | ⟨n1, rfl, rfl, rfl, rfl, rfl, rfl⟩
      · rcases y with ⟨_, rfl, rfl, rfl, rfl, rfl, rfl⟩ | ⟨n2, _⟩
        · exact ⟨rfl, rfl, rfl, rfl, rfl, rfl⟩
        · omega
      · rcases y with ⟨n2, _⟩ | ⟨_, rfl, rfl, rfl, rfl, rfl, rfl⟩
        · omega
        · exact ⟨rfl, rfl, rfl, rfl, rfl, rfl⟩
theorem AckR.gk {nx ak : Int} {hd : Bool} {C : List PC} {rs : RL} {e1 a1 : Int} {h1 : Bool} {C1 g1 k1 : List PC} (x : AckR nx ak hd C rs e1 a1 h1 C1 g1 k1) (h : Gk nx ak C) : Gk nx a1 C1 := by
  rcases x with ⟨_, rfl, rfl, rfl, rfl, rfl, rfl⟩ | ⟨_, z, _, ⟨_, rfl, rfl, rfl, rfl, rfl, rfl⟩ | ⟨hz, rfl, rfl, rfl, rfl, rfl, rfl⟩⟩
  · exact h
  · exact h
  · refine ⟨(h.rise.sublist List.filter_sublist).sublist List.filter_sublist, fun c hc => h.ok c (List.mem_filter.1 (List.mem_filter.1 hc).1).1, ?_, h.nx0, ?_⟩
    · exact Nat.le_trans (Nat.le_trans (List.length_filter_le _ _) (List.length_filter_le _ _)) h.len
    · have h1 := h.ak0
      have h2 := h.nx0
      omega
def AckU (B p : Nat) (nx ak : Int) (hd : Bool) (v : Value) (l : PL) (rs : RL) (w : World) (e : Ending) (w' : World) : Prop :=
  ∃ vg vl err ak' hd' vr lr Lg Ll, e = .returned (.tuple #[vg, vl, .int .i64 err]) ∧ LV w' B p nx ak' hd' vr lr ∧ OwnP w' w.heap.size vg Lg ∧ OwnP w' w.heap.size vl Ll ∧ Kept (· = p) w w' ∧ (∀ j, vr.ownBlock = some j → v.ownBlock = some j ∨ w.heap.size ≤ j) ∧ AckR nx ak hd (l.map PK.core) rs err ak' hd' (lr.map PK.core) (Lg.map PK.core) (Ll.map PK.core)
def RAckU (B q : Nat) (nx ak : Int) (hd : Bool) (v : Value) (l : PL) (rs : RL) (w : World) (e : Ending) (w' : World) : Prop :=
  ∃ vg vl err ak' hd' vr lr Lg Ll, e = .returned (.tuple #[vg, vl, .int .i64 err]) ∧ RV w' B q nx ak' hd' vr lr ∧ OwnP w' w.heap.size vg Lg ∧ OwnP w' w.heap.size vl Ll ∧ Kept (· = q) w w' ∧ (∀ j, vr.ownBlock = some j → v.ownBlock = some j ∨ w.heap.size ≤ j) ∧ AckR nx ak hd (l.map PK.core) rs err ak' hd' (lr.map PK.core) (Lg.map PK.core) (Ll.map PK.core)
section
variable {B p q : Nat} {nx ak : Int} {hd : Bool} {v : Value} {l : PL} {w : World}
theorem gk_n (h : Gk nx ak (l.map PK.core)) : ∀ r ∈ l, 0 ≤ r.n ∧ r.n < 4611686018427387904 - 1 := fun r hr => by
  have h1 := h.ok r.core (List.mem_map_of_mem hr)
  have h2 := h.nx0
  have h3 : r.core.n = r.n := rfl
  omega
theorem sackU (P : Nat → Prop) (A : Option Addr) (n c : Nat) (rs : RL) (hs : LV w B p nx ak hd v l) (hr : RnP w P A n rs) (hP : ¬ P p) (hnc : n ≤ c) (hcm : c ≤ maxLen) (hn : n ≤ 400000) (hg : Gk nx ak (l.map PK.core)) :
    Calls Try.prog 12 #[.pointer (some ⟨p, 0, none⟩), .slice A n c] w (AckU B p nx ak hd v l rs w) :=
  (sack_any P A n c rs hs hr hP hnc hcm hn (by rw [len_core]; exact hg.len) (gk_n hg) (by have := hg.nx0; omega) hg.ak0).mono fun e w' h => by
    rcases h with ⟨h1, h2, h3⟩ | ⟨h1, z, hz, ⟨h2, h3, h4⟩ | ⟨h2, vg, vl, vr, h3, h4, h5, h6, h7, h8⟩⟩
    · exact ⟨_, _, _, ak, hd, v, l, [], [], h2, hs.below h3, ownP_nil _ _, ownP_nil _ _, Kept.of_below h3 _, fun j hj => .inl hj, .inl ⟨h1, rfl, rfl, rfl, rfl, rfl, rfl⟩⟩
    · exact ⟨_, _, _, ak, hd, v, l, [], [], h3, hs.below h4, ownP_nil _ _, ownP_nil _ _, Kept.of_below h4 _, fun j hj => .inl hj, .inr ⟨h1, z, hz, .inl ⟨h2, rfl, rfl, rfl, rfl, rfl, rfl⟩⟩⟩
    · exact ⟨vg, vl, 0, _, true, vr, _, _, _, h3, h4, h5, h6, h7, fun j hj => .inr (h8 j hj), .inr ⟨h1, z, hz, .inr ⟨h2, rfl, rfl, rfl, by rw [filt_core _ (fun n => !decide (n + 3 ≤ max ak (z.2 - 1))), filt_core l (fun n => !hasL rs n)], filt_core l (hasL rs), by rw [filt_core _ (fun n => decide (n + 3 ≤ max ak (z.2 - 1))), filt_core l (fun n => !hasL rs n)]⟩⟩⟩
theorem rackU (P : Nat → Prop) (A : Option Addr) (n c : Nat) (rs : RL) (hs : RV w B q nx ak hd v l) (hr : RnP w P A n rs) (hP : ¬ P q) (hnc : n ≤ c) (hcm : c ≤ maxLen) (hn : n ≤ 400000) (hg : Gk nx ak (l.map PK.core)) :
    Calls Try.prog 19 #[.pointer (some ⟨q, 0, none⟩), .slice A n c] w (RAckU B q nx ak hd v l rs w) :=
  (rack_any P A n c rs hs hr hP hnc hcm hn (by rw [len_core]; exact hg.len) (gk_n hg) (by have := hg.nx0; omega) hg.ak0).mono fun e w' h => by
    rcases h with ⟨h1, h2, h3⟩ | ⟨h1, z, hz, ⟨h2, h3, h4⟩ | ⟨h2, vg, vl, vr, h3, h4, h5, h6, h7, h8⟩⟩
    · exact ⟨_, _, _, ak, hd, v, l, [], [], h2, hs.below h3, ownP_nil _ _, ownP_nil _ _, Kept.of_below h3 _, fun j hj => .inl hj, .inl ⟨h1, rfl, rfl, rfl, rfl, rfl, rfl⟩⟩
    · exact ⟨_, _, _, ak, hd, v, l, [], [], h3, hs.below h4, ownP_nil _ _, ownP_nil _ _, Kept.of_below h4 _, fun j hj => .inl hj, .inr ⟨h1, z, hz, .inl ⟨h2, rfl, rfl, rfl, rfl, rfl, rfl⟩⟩⟩
    · exact ⟨vg, vl, 0, _, true, vr, _, _, _, h3, h4, h5, h6, h7, fun j hj => .inr (h8 j hj), .inr ⟨h1, z, hz, .inr ⟨h2, rfl, rfl, rfl, by rw [filt_core _ (fun n => !decide (n + 3 ≤ max ak (z.2 - 1))), filt_core l (fun n => !hasL rs n)], filt_core l (hasL rs), by rw [filt_core _ (fun n => decide (n + 3 ≤ max ak (z.2 - 1))), filt_core l (fun n => !hasL rs n)]⟩⟩⟩
end
/-- Both sides of an acknowledgement: the ledgers tell the same behind it. -/
theorem Sx.acks {w0 : GW} {w w1 w2 : World} {B p q : Nat} {nx ak : Int} {hd : Bool} {v1 v2 : Value} {l1 l2 : PL} {rs : RL} {e1 a1 e2 a2 : Int} {h1 h2 : Bool} {r1 r2 : Value} {L1 L2 Lg1 Ll1 Lg2 Ll2 : PL} (h : Sx w0 w B p q nx ak hd v1 v2 l1 l2)
    (hl : LV w1 B p nx a1 h1 r1 L1) (hk1 : Kept (· = p) w w1) (hf1 : ∀ j, r1.ownBlock = some j → v1.ownBlock = some j ∨ w.heap.size ≤ j) (x : AckR nx ak hd (l1.map PK.core) rs e1 a1 h1 (L1.map PK.core) (Lg1.map PK.core) (Ll1.map PK.core))
    (hr : RV w2 B q nx a2 h2 r2 L2) (hk2 : Kept (· = q) w1 w2) (hf2 : ∀ j, r2.ownBlock = some j → v2.ownBlock = some j ∨ w1.heap.size ≤ j) (y : AckR nx ak hd (l2.map PK.core) rs e2 a2 h2 (L2.map PK.core) (Lg2.map PK.core) (Ll2.map PK.core)) :
    e1 = e2 ∧ Lg1.map PK.core = Lg2.map PK.core ∧ Ll1.map PK.core = Ll2.map PK.core ∧ Sx w0 w2 B p q nx a1 h1 r1 r2 L1 L2 := by
  have y' := y
  rw [← h.core] at y'
  obtain ⟨c1, c2, c3, c4, c5, c6⟩ := x.one y'
  subst c2; subst c3
  have hb1 := h.blKept (hk1.mono (fun j hj => .inl (.inl hj)))
  have hq1 : ∀ j, r1.ownBlock = some j → ¬ j = q := fun j hj e => by
    obtain ⟨cur, hA⟩ := ownG_type hl.own j hj
    have hq := (h.rvKept (hk1.mono (fun j hj => .inl (.inl hj)))).at_
    rw [e] at hA
    exact absurd (hA.type_eq hq) (by decide)
  have hnq : NoFr w1 (· = q) := NoFr.of_type fun j hj => by
    have hq := (h.rvKept (hk1.mono (fun j hj => .inl (.inl hj)))).at_
    subst hj
    exact ⟨_, _, hq, by decide⟩
  refine ⟨c1, c5, c6, hl.kept hk2 h.pq hq1 hnq, hr, c4, x.gk h.gk, fun j hj hj2 => ?_, hk2.below hb1 (Nat.le_trans h.sz hk1.size) (fun j hj => by rw [hj]; exact hr.bq), Nat.le_trans (Nat.le_trans h.sz hk1.size) hk2.size, (h.kp.step hk1 (fun g hg => .inl hg) hf1 (fun j hj => .inl hj)).step hk2 (fun g hg => .inr (.inl hg)) (fun j hj => .inl hj) hf2⟩
  have hlt := (ownG_lt hl.own j hj).2
  rcases hf2 j hj2 with h6 | h6
  · rcases hf1 j hj with h5 | h5
    · exact h.off j h5 h6
    · have := (ownG_lt h.rv.own j h6).2
      omega
  · omega
end Go.Proofs.Ytpihgikcgkipaaa
