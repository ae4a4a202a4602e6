/-
  The law's calls: two ledgers that tell the same (Sx, St); Clear.
-/
import Derived.Test.YtpihgikcgkipaaaUs
import Derived.Test.YtpihgikcgkipaaaUq
namespace Go.Proofs.Ytpihgikcgkipaaa
set_option linter.unusedVariables false
set_option linter.unusedSimpArgs false
open Go.RowKit
/-- What is kept, as it is compared: rising, each asks, small enough, below the next number. -/
structure Gk (nx ak : Int) (C : List PC) : Prop where
  rise : C.Pairwise (fun a b => a.n < b.n)
  ok : ∀ c ∈ C, 0 ≤ c.n ∧ c.n < nx ∧ 0 ≤ c.s ∧ c.s ≤ 512 ∧ c.a = true
  len : C.length ≤ 64
  nx0 : 0 ≤ nx ∧ nx ≤ 4611686018427387903
  ak0 : 0 ≤ ak ∧ ak < 4611686018427387904
/-- Two rows that do not share a block. -/
def Off (x y : Value) : Prop := ∀ k, x.ownBlock = some k → y.ownBlock ≠ some k
/-- A world, and the blocks of it that the ledgers have nothing to do with. -/
structure GW where
  w : World
  G : Nat → Prop
/-- What is no ledger's is as it was. -/
structure Kp (w0 : GW) (w : World) (p q : Nat) (v1 v2 : Value) : Prop where
  eq : ∀ g, w0.G g → w.heap[g]? = w0.w.heap[g]?
  lt : ∀ g, w0.G g → g < w.heap.size
  np : ∀ g, w0.G g → g ≠ p ∧ g ≠ q
  nv : ∀ g, w0.G g → v1.ownBlock ≠ some g ∧ v2.ownBlock ≠ some g
theorem Kp.step {w0 : GW} {w w' : World} {p q : Nat} {v1 v2 r1 r2 : Value} {S : Nat → Prop} (h : Kp w0 w p q v1 v2) (k : Kept S w w') (hS : ∀ g, S g → g = p ∨ g = q ∨ v1.ownBlock = some g ∨ v2.ownBlock = some g ∨ w.heap.size ≤ g)
    (h1 : ∀ j, r1.ownBlock = some j → v1.ownBlock = some j ∨ w.heap.size ≤ j) (h2 : ∀ j, r2.ownBlock = some j → v2.ownBlock = some j ∨ w.heap.size ≤ j) : Kp w0 w' p q r1 r2 :=
  ⟨fun g hg => (k.block g (h.lt g hg) (fun hs => by
      rcases hS g hs with e | e | e | e | e
      · exact (h.np g hg).1 e
      · exact (h.np g hg).2 e
      · exact (h.nv g hg).1 e
      · exact (h.nv g hg).2 e
      · have := h.lt g hg; omega)).trans (h.eq g hg),
    fun g hg => Nat.lt_of_lt_of_le (h.lt g hg) k.size, h.np, fun g hg => ⟨fun e => by
      rcases h1 g e with e | e
      · exact (h.nv g hg).1 e
      · have := h.lt g hg; omega, fun e => by
      rcases h2 g e with e | e
      · exact (h.nv g hg).2 e
      · have := h.lt g hg; omega⟩⟩
theorem Kp.below {w0 : GW} {w w' : World} {p q : Nat} {v1 v2 : Value} (h : Kp w0 w p q v1 v2) (k : Below w.heap.size w w') : Kp w0 w' p q v1 v2 :=
  h.step (Kept.of_below k (fun _ => False)) (fun g hg => hg.elim) (fun j hj => .inl hj) (fun j hj => .inl hj)
/-- The program's ledger and the document's tell the same, in memory from block B on, all made since w0. -/
structure Sx (w0 : GW) (w : World) (B p q : Nat) (nx ak : Int) (hd : Bool) (v1 v2 : Value) (l1 l2 : PL) : Prop where
  lv : LV w B p nx ak hd v1 l1
  rv : RV w B q nx ak hd v2 l2
  core : l1.map PK.core = l2.map PK.core
  gk : Gk nx ak (l1.map PK.core)
  off : Off v1 v2
  bl : Below B w0.w w
  sz : B ≤ w.heap.size
  kp : Kp w0 w p q v1 v2
def St (w0 : GW) (w : World) (B p q : Nat) : Prop := ∃ nx ak hd v1 v2 l1 l2, Sx w0 w B p q nx ak hd v1 v2 l1 l2
/-- An Ask as it is handed in, but for its kind. -/
structure AX where
  skip : Int
  size : Int
  asks : Bool
  time : Int
  from_ : Int
  ro : Sl
  p : PK
  r : Sl
def axL (k : Int) (x : AX) : List Value := [.int .i64 k, .int .i64 x.skip, .int .i64 x.size, .bool x.asks, .int .i64 x.time, .int .u64 x.from_, .slice x.ro.A x.ro.n x.ro.c, .int .u64 x.p.n, .int .i64 x.p.t, .int .i64 x.p.s, .bool x.p.a, .slice x.p.A x.p.k x.p.c, .slice x.r.A x.r.n x.r.c]
section
variable {w0 : GW} {w w' : World} {B p q : Nat} {nx ak : Int} {hd : Bool} {v1 v2 : Value} {l1 l2 : PL}
theorem Sx.pq (h : Sx w0 w B p q nx ak hd v1 v2 l1 l2) : p ≠ q := fun e => by
  have h1 := h.lv.at_
  rw [e] at h1
  exact absurd (h1.type_eq h.rv.at_) (by decide)
theorem Sx.v2p (h : Sx w0 w B p q nx ak hd v1 v2 l1 l2) : ∀ j, v2.ownBlock = some j → ¬ j = p := fun j hj e => by
  obtain ⟨cur, hA⟩ := ownG_type h.rv.own j hj
  rw [e] at hA
  exact absurd (hA.type_eq h.lv.at_) (by decide)
theorem Sx.v1q (h : Sx w0 w B p q nx ak hd v1 v2 l1 l2) : ∀ j, v1.ownBlock = some j → ¬ j = q := fun j hj e => by
  obtain ⟨cur, hA⟩ := ownG_type h.lv.own j hj
  rw [e] at hA
  exact absurd (hA.type_eq h.rv.at_) (by decide)
/-- What a call of the program's leaves of the document's ledger. -/
theorem Sx.rvKept (h : Sx w0 w B p q nx ak hd v1 v2 l1 l2) (k : Kept (fun j => j = p ∨ v1.ownBlock = some j) w w') : RV w' B q nx ak hd v2 l2 :=
  h.rv.kept k (fun hq => by
    rcases hq with hq | hq
    · exact h.pq hq.symm
    · exact h.v1q q hq rfl) (fun j hj hS => by
    rcases hS with hS | hS
    · exact h.v2p j hj hS
    · exact h.off j hS hj)
theorem Sx.blKept (h : Sx w0 w B p q nx ak hd v1 v2 l1 l2) (k : Kept (fun j => j = p ∨ v1.ownBlock = some j) w w') : Below B w0.w w' := k.below h.bl h.sz (fun j hj => by
  rcases hj with hj | hj
  · rw [hj]; exact h.lv.bp
  · exact (ownG_lt h.lv.own j hj).1)
theorem Sx.below (h : Sx w0 w B p q nx ak hd v1 v2 l1 l2) (k : Below w.heap.size w w') : Sx w0 w' B p q nx ak hd v1 v2 l1 l2 :=
  ⟨h.lv.below k, h.rv.below k, h.core, h.gk, h.off, h.bl.trans (k.mono h.sz), Nat.le_trans h.sz k.size, h.kp.below k⟩
theorem Sx.hs (h : Sx w0 w B p q nx ak hd v1 v2 l1 l2) : ∀ r ∈ l1, (0 ≤ r.s ∧ r.s ≤ 512) ∧ r.a = true := fun r hr => by
  have := h.gk.ok r.core (List.mem_map_of_mem hr)
  exact ⟨⟨this.2.2.1, this.2.2.2.1⟩, this.2.2.2.2⟩
theorem Sx.hn (h : Sx w0 w B p q nx ak hd v1 v2 l1 l2) : l1.length ≤ 64 := by rw [len_core]; exact h.gk.len
theorem Sx.hn2 (h : Sx w0 w B p q nx ak hd v1 v2 l1 l2) : l2.length ≤ 64 := by rw [len_core, ← h.core]; exact h.gk.len
theorem Sx.same (h : Sx w0 w B p q nx ak hd v1 v2 l1 l2) :
    Calls Try.prog 24 #[.pointer (some ⟨p, 0, none⟩), .pointer (some ⟨q, 0, none⟩)] w fun e w' => e = .returned (.bool true) ∧ St w0 w' B p q :=
  (same_any h.lv h.rv h.core h.hn h.hs).mono fun e w' hh => ⟨hh.1, _, _, _, _, _, _, _, h.below hh.2⟩
theorem Gk.nil_ (h : Gk nx ak (l1.map PK.core)) : Gk nx ak [] := ⟨List.Pairwise.nil, fun c hc => (by cases hc), by simp, h.nx0, h.ak0⟩
theorem inP_of {w : World} {B n c : Nat} {A : Option Addr} {l : PL} (h : OwnP w B (.slice A n c) l) (hn : l.length = n) : InP w A n l := by
  obtain ⟨A', c', e, _, _, hi⟩ := ownP_open h
  injection e with e1
  subst e1
  rw [hn] at hi
  exact hi
set_option maxRecDepth 100000 in
set_option maxHeartbeats 8000000 in
theorem do_clear (h : Sx w0 w B p q nx ak hd v1 v2 l1 l2) (x : AX) :
    Calls Try.prog 8 #[.pointer (some ⟨p, 0, none⟩), .pointer (some ⟨q, 0, none⟩), .agg (axL 10 x).toArray] w fun e w' => e = .returned (.bool true) ∧ St w0 w' B p q := by
  obtain ⟨skip, size, asks, time, from_, ⟨roA, ron, roc⟩, ⟨pn, pt, ps, pa, pA, pk, pc⟩, ⟨rA, rn, rc⟩⟩ := x
  have hax : Below w.heap.size w (w.alloc (.cells #[.int .i64 10, .int .i64 skip, .int .i64 size, .bool asks, .int .i64 time, .int .u64 from_, .slice roA ron roc, .int .u64 pn, .int .i64 pt, .int .i64 ps, .bool pa, .slice pA pk pc, .slice rA rn rc] 36)) := (Below.refl _ _).alloc (Nat.le_refl _) _
  have HX := Lib.hid (h.below hax)
  clear h hax
  rw [show Value.agg (axL 10 ⟨skip, size, asks, time, from_, ⟨roA, ron, roc⟩, ⟨pn, pt, ps, pa, pA, pk, pc⟩, ⟨rA, rn, rc⟩⟩).toArray = .agg #[.int .i64 10, .int .i64 skip, .int .i64 size, .bool asks, .int .i64 time, .int .u64 from_, .slice roA ron roc, .int .u64 pn, .int .i64 pt, .int .i64 ps, .bool pa, .slice pA pk pc, .slice rA rn rc] from rfl]
  go_enter Try.func8, Try.ntmps8
  go_wp2
  generalize World.alloc w _ = X at *
  obtain ⟨N, hN⟩ : ∃ N, l1.length = N := ⟨_, rfl⟩
  have HN1 := Lib.hid hN
  have HN2 := Lib.hid (show l2.length = N by rw [← hN, len_core, ← HX.out.core, ← len_core])
  have hN64 : N ≤ 64 := by rw [← hN]; exact HX.out.hn
  clear hN
  obtain ⟨A1, c1, rfl, _, _⟩ : ∃ A c, v1 = .slice A N c ∧ N ≤ c ∧ c ≤ maxLen := by have h9 := ownG_shape HX.out.lv.own; rw [HN1.out] at h9; exact h9
  obtain ⟨A2, c2, rfl, _, _⟩ : ∃ A c, v2 = .slice A N c ∧ N ≤ c ∧ c ≤ maxLen := by have h9 := ownG_shape HX.out.rv.own; rw [HN2.out] at h9; exact h9
  have hd0 : Below X.heap.size X X.drew := ⟨rfl, rfl, rfl, Nat.le_refl _, fun _ _ => rfl⟩
  have HCLR := Lib.hid (sclear_any (HX.out.below hd0).lv)
  refine wp_region_held_drew (S := (fun W => W.cell? ⟨q, 0, none⟩ = some (.slice A2 N c2) ∧ RV W B q nx ak hd (.slice A2 N c2) l2)) (by kernel_rfl) (⟨(HX.out.below hd0).rv.at_.cell 0, (HX.out.below hd0).rv⟩) (fun hHeld => ?_)
  refine tkq 0 (some 181) (v := ?_) rfl (Or.inl ⟨by rfl, ?_⟩) (by assumption) ?_
  rotate_left
  · intro w hSw; (try dsimp only at hSw); go_simp; first | done | (with_reducible rfl)
  simp only [Act.put, List.setIfInBounds_toArray, List.set_cons_zero, List.set_cons_succ]
  refine tkq 2 (some 183) (v := ?_) rfl (Or.inl ⟨by rfl, ?_⟩) (by assumption) ?_
  rotate_left
  · intro w hSw; (try dsimp only at hSw); go_simp; first | done | (with_reducible rfl)
  simp only [Act.put, List.setIfInBounds_toArray, List.set_cons_zero, List.set_cons_succ]
  refine tkq 3 (some 184) (v := ?_) rfl (Or.inl ⟨by rfl, ?_⟩) (by assumption) ?_
  rotate_left
  · intro w hSw; (try dsimp only at hSw); go_simp; first | done | (with_reducible rfl)
  simp only [Act.put, List.setIfInBounds_toArray, List.set_cons_zero, List.set_cons_succ]
  refine tkq 4 (some 185) (v := ?_) rfl (Or.inl ⟨by rfl, ?_⟩) (by assumption) ?_
  rotate_left
  · intro w hSw; (try dsimp only at hSw); go_simp; first | done | (with_reducible rfl)
  simp only [Act.put, List.setIfInBounds_toArray, List.set_cons_zero, List.set_cons_succ]
  refine tkq 5 (some 186) (v := ?_) rfl (Or.inl ⟨by rfl, ?_⟩) (by assumption) ?_
  rotate_left
  · intro w hSw; (try dsimp only at hSw); go_simp; first | done | (with_reducible rfl)
  simp only [Act.put, List.setIfInBounds_toArray, List.set_cons_zero, List.set_cons_succ]
  refine wpAnyH_ready (rs := [1]) (by kernel_rfl) (by simp) ?_
  refine AllReadyH.cons rfl (fun K hK => ?_) AllReadyH.nil
  go_simp
  go_wp2_with (go_at_call 13; (with_reducible refine HCLR.out.mono ?_); rintro e w6 ⟨rfl, hl6, ho6, hk6⟩)
  have hr6 := (HX.out.below hd0).rvKept (hk6.mono (fun j hj => .inl (.inl hj)))
  have hc6 := hr6.at_.cell 0
  refine hK.out _ _ (⟨hc6, hr6⟩) (fun hHeld => ?_)
  clear hK K
  refine wpAnyH_ready (rs := [6]) (by kernel_rfl) (by simp) ?_
  refine AllReadyH.cons rfl (fun K hK => ?_) AllReadyH.nil
  go_simp
  have HPK := Lib.hid (packets_any A1 A2 N c1 c2 l1 l2 w6 (inP_of ho6 HN1.out) (inP_of hHeld.2.own HN2.out) HX.out.core (by omega))
  go_wp2_with (go_at_call 20; (with_reducible refine HPK.out.mono ?_); rintro e w7 ⟨rfl, hb7⟩)
  have hr7 := hHeld.2.below hb7
  have hc7 := hr7.at_.cell 0
  refine hK.out _ _ (⟨hc7, hr7⟩) (fun hHeld => ?_)
  clear hK K
  refine tkq 7 (some 188) (v := ?_) rfl (Or.inl ⟨by rfl, ?_⟩) (by assumption) ?_
  rotate_left
  · intro w hSw; (try dsimp only at hSw); go_simp; first | done | (with_reducible rfl)
  simp only [Act.put, List.setIfInBounds_toArray, List.set_cons_zero, List.set_cons_succ]
  refine wpAnyH_done (by kernel_rfl) ?_ _
  have hq7 := hr7.at_
  have c70 := hq7.cell 0
  have f70 := hq7.frozen 0
  have hl7 := hl6.below hb7
  have hk9 : Kept (· = q) w7 (w7.setCell ⟨q, 0, none⟩ (.slice none 0 0)) := (Kept.refl _ _).setAt _ _
  have hsx : Sx w0 (w7.setCell ⟨q, 0, none⟩ (.slice none 0 0)) B p q nx ak hd (.slice none 0 0) (.slice none 0 0) [] [] := by
    have hb9 : Below B w0.w w7 := ((HX.out.below hd0).blKept (hk6.mono (fun j hj => .inl (.inl hj)))).trans (hb7.mono (Nat.le_trans (HX.out.below hd0).sz hk6.size))
    refine ⟨hl7.kept hk9 HX.out.pq (fun j hj => (by cases hj)) (NoFr.of_type fun j hj => by subst hj; exact ⟨_, _, hq7, by decide⟩), ⟨hq7.set 0 _, ownP_nil _ _, hr7.bq⟩, rfl, HX.out.gk.nil_, fun j hj => (by cases hj), hk9.below hb9 (Nat.le_trans (Nat.le_trans (HX.out.below hd0).sz hk6.size) hb7.size) (fun j hj => by rw [hj]; exact hr7.bq), ?_, ?_⟩
    · exact Nat.le_trans (Nat.le_trans (Nat.le_trans (HX.out.below hd0).sz hk6.size) hb7.size) hk9.size
    · exact (((HX.out.below hd0).kp.step hk6 (fun g hg => .inl hg) (fun j hj => .inl hj) (fun j hj => .inl hj)).below hb7).step (r1 := .slice none 0 0) (r2 := .slice none 0 0) hk9 (fun g hg => .inr (.inl hg)) (fun j hj => (by cases hj)) (fun j hj => (by cases hj))
  have HSX := Lib.hid hsx
  clear hsx hk9 hl7 hr7 hc7 hq7 hHeld hl6 ho6 hk6 hr6 hc6 hb7 HPK
  go_wp2_with fail
  refine HSX.out.same.mono ?_
  rintro e w8 ⟨rfl, hst⟩
  have HST := Lib.hid hst
  clear hst
  go_wp2
  go_ret
  exact ⟨rfl, HST.out⟩
end
end Go.Proofs.Ytpihgikcgkipaaa
