/-
  Some frames (narthexlaw4.some): 39 that lie in the world, whatever the order in which they are made.
-/
import Derived.Test.YtkahndjflhgccaaMl
import Derived.Test.YtkahndjflhgccaaMm
namespace Go.Proofs.Ytkahndjflhgccaa
set_option linter.unusedVariables false
set_option linter.unusedSimpArgs false
open Go.RowKit
/-- What was there reads as it did. -/
structure Ext (w w' : World) : Prop where
  size : w.heap.size ≤ w'.heap.size
  cell : ∀ b off, b < w.heap.size → w'.cell? ⟨b, off, none⟩ = w.cell? ⟨b, off, none⟩
theorem Ext.of_below {w w' : World} (h : Below w.heap.size w w') : Ext w w' := ⟨h.size, fun b off hb => h.cell (p := ⟨b, off, none⟩) hb⟩
theorem InD.ext {w w' : World} {P : Nat → Prop} {d : Sl} {ds : List Int} (h : InD w P d ds) (k : Ext w w') : InD w' P d ds := ⟨⟨h.rd.1.keep k.size (fun b off hb => k.cell b off hb), h.rd.2⟩, h.lc, h.cm, h.nil⟩
theorem InR.ext {w w' : World} {P : Nat → Prop} {d : Sl} {rs : RS} (h : InR w P d rs) (k : Ext w w') : InR w' P d rs := by
  refine ⟨⟨h.rd.1, h.rd.2.1, fun hn => ?_⟩, h.lc, h.cm, h.nil⟩
  obtain ⟨b, off, e, hb, hp, hc⟩ := h.rd.2.2 hn
  refine ⟨b, off, e, Nat.lt_of_lt_of_le hb k.size, hp, fun i r hr => ?_⟩
  rw [k.cell b _ hb, k.cell b _ hb]
  exact hc i r hr
theorem Fits.ext {w w' : World} {P : Nat → Prop} {m : FN} {d r : Sl} {ds : List Int} {rs : RS} (h : Fits w P m d r ds rs) (k : Ext w w') : Fits w' P m d r ds rs := ⟨h.wf, h.dt.ext k, h.rg.ext k⟩
theorem UsP.ext {w w' : World} {P : Nat → Prop} {A : Option Addr} {n : Nat} {xs : List Int} (h : UsP w P A n xs) (k : Ext w w') : UsP w' P A n xs := by
  refine ⟨h.1, h.2.1, fun hn => ?_⟩
  obtain ⟨b, off, e, hb, hp, hc⟩ := h.2.2 hn
  exact ⟨b, off, e, Nat.lt_of_lt_of_le hb k.size, hp, fun i x hx => by rw [k.cell b _ hb]; exact hc i x hx⟩
def AnyB : Nat → Prop := fun _ => True
def PRc (v : Value) (w : World) : Prop := ∃ (d : Sl) (rs : RS), v = .slice d.A d.n d.c ∧ InR w AnyB d rs
def PUs (v : Value) (w : World) : Prop := ∃ (g : Nat) (xs : List Int), v = .slice (some ⟨g, 0, none⟩) 32 32 ∧ UsP w AnyB (some ⟨g, 0, none⟩) 32 xs
def PDa (v : Value) (w : World) : Prop := ∃ (d : Sl) (ds : List Int), v = .slice d.A d.n d.c ∧ InD w AnyB d ds
def PFr (v : Value) (w : World) : Prop := ∃ x : FR, v = frV x.m x.d x.r ∧ Fits w AnyB x.m x.d x.r x.ds x.rs
def PFs (v : Value) (w : World) : Prop := ∃ (A : Option Addr) (L : List FR), v = .slice A 39 39 ∧ FrsP w AnyB A 39 L
def kinds1 : List Nat := [8, 11, 15, 19, 24, 27]
def kinds2 : List Nat := [41, 43, 45, 49, 67, 69]
def kinds3 : List Nat := [9, 12, 16, 20, 25, 28, 42, 44, 46, 50, 68, 70]
/-- What the result of operation i is, once it has come up. -/
def Pd (i : Nat) (v : Value) (w : World) : Prop :=
  if kinds1.contains i then PRc v w else if kinds2.contains i then PDa v w else if kinds3.contains i then PFr v w else if i = 26 then PUs v w else if i = 76 ∨ i = 77 then PFs v w else True
theorem FrsP.ext {w w' : World} {P : Nat → Prop} {A : Option Addr} {n : Nat} {L : List FR} (h : FrsP w P A n L) (k : Ext w w') : FrsP w' P A n L := by
  refine ⟨h.1, fun hn => ?_, fun x hx => (h.2.2 x hx).ext k⟩
  obtain ⟨b, off, e, hb, hp, hc⟩ := h.2.1 hn
  refine ⟨b, off, e, Nat.lt_of_lt_of_le hb k.size, hp, fun i x hx => ?_⟩
  intro j v hv
  exact (k.cell b _ hb).trans (hc i x hx j v hv)
theorem Pd.ext {i : Nat} {v : Value} {w w' : World} (h : Pd i v w) (k : Ext w w') : Pd i v w' := by
  unfold Pd at h ⊢
  split
  · rename_i h1; rw [if_pos h1] at h
    obtain ⟨d, rs, e, h⟩ := h; exact ⟨d, rs, e, h.ext k⟩
  · rename_i h1; rw [if_neg h1] at h
    split
    · rename_i h2; rw [if_pos h2] at h
      obtain ⟨d, ds, e, h⟩ := h; exact ⟨d, ds, e, h.ext k⟩
    · rename_i h2; rw [if_neg h2] at h
      split
      · rename_i h3; rw [if_pos h3] at h
        obtain ⟨x, e, h⟩ := h; exact ⟨x, e, h.ext k⟩
      · rename_i h3; rw [if_neg h3] at h
        split
        · rename_i h4; rw [if_pos h4] at h
          obtain ⟨g, xs, e, h⟩ := h; exact ⟨g, xs, e, h.ext k⟩
        · rename_i h4; rw [if_neg h4] at h
          split
          · rename_i h5; rw [if_pos h5] at h
            obtain ⟨A, L, e, h⟩ := h; exact ⟨A, L, e, h.ext k⟩
          · trivial
/-- The bytes of "abc" ahead of their conversion. -/
def PA (w0 : World) (v : Value) (w : World) : Prop := ∃ g, v = .slice (some ⟨g, 0, none⟩) 3 3 ∧ w0.heap.size ≤ g ∧ At w g 5 [.int .u8 97, .int .u8 98, .int .u8 99]
/-- The slots: those that are settled ahead, and x for the others. -/
def mkA (x : Nat → Value) : Act := { tmps := #[x 79, .int .u64 4611686018427387903, frV ⟨0, 0, 0, false, 0, 0, 0, 0, 0, 0, 0, 0, 0, 0, 0, 0, 0⟩ .nil .nil, frV ⟨1, 0, 0, false, 0, 0, 0, 0, 0, 0, 0, 0, 0, 0, 0, 0, 0⟩ .nil .nil, .agg #[.int .u64 1, .int .u64 2], .agg #[.int .u64 3, .int .u64 9], .int .u64 4611686018427387903, .int .u64 4611686018427387903, .int .u64 4611686018427387904, .agg #[.int .u64 4611686018427387903, .int .u64 4611686018427387904], x 10, x 11, .agg #[.int .u64 0, .int .u64 1], x 13, x 14, .agg #[.int .u64 1, .int .u64 2], .agg #[.int .u64 2, .int .u64 9], x 17, x 18, frV ⟨2, 0, 0, false, 0, 0, 0, 0, 0, 0, 0, 0, 0, 0, 0, 0, 0⟩ .nil .nil, .agg #[.int .u64 5, .int .u64 5], x 21, x 22, .int .u64 4611686018427387903, .int .u64 4611686018427387905, .agg #[.int .u64 0, .int .u64 4611686018427387905], x 26, x 27, x 28, x 29, x 30, .int .u64 4611686018427387903, frV ⟨4, 4, 0, false, 0, 4611686018427387903, 1099511627776, 0, 0, 0, 0, 0, 0, 0, 0, 0, 0⟩ .nil .nil, frV ⟨4, 0, 0, false, 0, 0, 1099511627777, 0, 0, 0, 0, 0, 0, 0, 0, 0, 0⟩ .nil .nil, .int .u64 4611686018427387903, .int .u64 4611686018427387904, frV ⟨4, 0, 0, false, 0, 4611686018427387904, 0, 0, 0, 0, 0, 0, 0, 0, 0, 0, 0⟩ .nil .nil, .int .u64 4611686018427387903, frV ⟨5, 4611686018427387903, 0, false, 0, 0, 0, 0, 0, 0, 0, 0, 0, 0, 0, 0, 0⟩ .nil .nil, .int .u64 4611686018427387903, .int .u64 4611686018427387904, frV ⟨5, 4611686018427387904, 0, false, 0, 0, 0, 0, 0, 0, 0, 0, 0, 0, 0, 0, 0⟩ .nil .nil, frV ⟨6, 0, 1099511627776, false, 0, 0, 0, 0, 0, 0, 0, 0, 0, 0, 0, 0, 0⟩ .nil .nil, x 43, x 44, x 45, x 46, x 47, x 48, frV ⟨8, 0, 0, false, 0, 0, 0, 0, 0, 0, 0, 0, 0, 0, 0, 0, 0⟩ .nil .nil, x 50, x 51, x 52, frV ⟨8, 0, 9223372036854775808, false, 0, 0, 0, 0, 0, 0, 0, 0, 0, 0, 0, 0, 0⟩ .nil .nil, frV ⟨16, 0, 0, false, 1099511627776, 0, 0, 0, 0, 0, 0, 0, 0, 0, 0, 0, 0⟩ .nil .nil, frV ⟨16, 0, 0, false, 1099511627777, 0, 0, 0, 0, 0, 0, 0, 0, 0, 0, 0, 0⟩ .nil .nil, frV ⟨17, 3, 0, false, 5, 0, 0, 0, 0, 0, 0, 0, 0, 0, 0, 0, 0⟩ .nil .nil, frV ⟨18, 0, 0, false, 1048576, 0, 0, 0, 0, 0, 0, 0, 0, 0, 0, 0, 0⟩ .nil .nil, frV ⟨18, 0, 0, false, 1048577, 0, 0, 0, 0, 0, 0, 0, 0, 0, 0, 0, 0⟩ .nil .nil, .int .u64 4611686018427387903, frV ⟨20, 0, 0, false, 4611686018427387903, 0, 0, 0, 0, 0, 0, 0, 0, 0, 0, 0, 0⟩ .nil .nil, .agg #[.int .u8 1, .int .u8 0, .int .u8 0, .int .u8 0, .int .u8 0, .int .u8 0, .int .u8 0, .int .u8 0], frV ⟨24, 0, 0, false, 5, 0, 0, 5, 0, 1, 0, 0, 0, 0, 0, 0, 0⟩ .nil .nil, frV ⟨24, 0, 0, false, 6, 0, 0, 5, 0, 0, 0, 0, 0, 0, 0, 0, 0⟩ .nil .nil, .int .u64 4611686018427387903, frV ⟨25, 0, 0, false, 0, 0, 0, 4611686018427387903, 0, 0, 0, 0, 0, 0, 0, 0, 0⟩ .nil .nil, .agg #[.int .u8 9, .int .u8 8, .int .u8 0, .int .u8 0, .int .u8 0, .int .u8 0, .int .u8 0, .int .u8 0], frV ⟨26, 0, 0, false, 0, 0, 0, 0, 0, 9, 8, 0, 0, 0, 0, 0, 0⟩ .nil .nil, frV ⟨27, 0, 0, false, 0, 0, 0, 0, 0, 0, 0, 0, 0, 0, 0, 0, 0⟩ .nil .nil, x 69, x 70, x 71, x 72, frV ⟨30, 0, 0, false, 0, 0, 0, 0, 0, 0, 0, 0, 0, 0, 0, 0, 0⟩ .nil .nil, frV ⟨3, 0, 0, false, 0, 0, 0, 0, 0, 0, 0, 0, 0, 0, 0, 0, 0⟩ .nil .nil, frV ⟨31, 0, 0, false, 0, 0, 0, 0, 0, 0, 0, 0, 0, 0, 0, 0, 0⟩ .nil .nil, frV ⟨(-1), 0, 0, false, 0, 0, 0, 0, 0, 0, 0, 0, 0, 0, 0, 0, 0⟩ .nil .nil, frV ⟨14, 0, 0, false, 0, 0, 0, 0, 0, 0, 0, 0, 0, 0, 0, 0, 0⟩ .nil .nil, x 78], defers := [] }
def upd (x : Nat → Value) (s : Nat) (v : Value) : Nat → Value := fun k => if k = s then v else x k
def preL : List Nat := [0, 1, 2, 3, 4, 5, 6, 7, 10, 13, 14, 17, 18, 21, 22, 23, 29, 30, 31, 32, 33, 34, 35, 36, 37, 38, 39, 40, 47, 51, 52, 53, 54, 55, 56, 57, 58, 59, 60, 61, 62, 63, 64, 65, 66, 71, 72, 73, 74, 75]
def effL : List Nat := [8, 9, 11, 12, 15, 16, 19, 20, 24, 25, 26, 27, 28, 41, 42, 43, 44, 45, 46, 48, 49, 50, 67, 68, 69, 70, 76, 77]
structure InvS (w0 : World) (listed : Array Bool) (a : Act) (w : World) : Prop where
  ex : ∃ x, a = mkA x ∧ Below w0.heap.size w0 w ∧ (∀ i ∈ preL, listed.getD i true = true) ∧ (∀ i, listed.getD i false = true → Pd i (x (i + 2)) w) ∧ (listed.getD 48 false = true → listed.getD 49 false = false → PA w0 (x 50) w)
theorem setT {listed : Array Bool} {i j : Nat} (hi : i < listed.size) (h : listed.getD j true = true) : (listed.setIfInBounds i true).getD j true = true := by
  rw [getD_set hi]; split
  · rfl
  · exact h
theorem InvS.step {w0 : World} {listed : Array Bool} {x : Nat → Value} {w w' : World} {i : Nat} {v : Value} (hs : listed.size = 78) (hi : i < 78) (h8 : i ≠ 48) (h9 : i ≠ 49) (hB : Below w0.heap.size w0 w) (hpre : ∀ i ∈ preL, listed.getD i true = true)
    (hP : ∀ i, listed.getD i false = true → Pd i (x (i + 2)) w) (hA : listed.getD 48 false = true → listed.getD 49 false = false → PA w0 (x 50) w) (hb : Below w.heap.size w w') (hv : Pd i v w') : InvS w0 (listed.setIfInBounds i true) (mkA (upd x (i + 2) v)) w' := by
  refine ⟨upd x (i + 2) v, rfl, hB.trans (hb.mono hB.size), fun j hj => setT (by omega) (hpre j hj), fun j hj => ?_, fun h1 h2 => ?_⟩
  · rw [getD_setF (by omega)] at hj
    by_cases e : j = i
    · subst e; simp only [upd, if_true]; exact hv
    · rw [if_neg e] at hj
      simp only [upd, show ¬ (j + 2 = i + 2) by omega, if_false]
      exact (hP j hj).ext (Ext.of_below hb)
  · rw [getD_setF (by omega), if_neg (fun e => h8 e.symm)] at h1
    rw [getD_setF (by omega), if_neg (fun e => h9 e.symm)] at h2
    obtain ⟨g, e, hg, hAt⟩ := hA h1 h2
    refine ⟨g, ?_, hg, hAt.below hb hAt.lt⟩
    simp only [upd, show ¬ (50 = i + 2) by omega, if_false]
    exact e
theorem Pd_pre (i : Nat) (v : Value) (w : World) (h : preL.contains i = true) : Pd i v w := by
  have hc : preL.all (fun i => !kinds1.contains i && !kinds2.contains i && !kinds3.contains i && i != 26 && !(i == 76 || i == 77)) = true := by decide
  have h1 := List.all_eq_true.1 hc i (List.contains_iff_mem.1 h)
  simp only [Bool.and_eq_true, Bool.not_eq_true', bne_iff_ne, ne_eq, Bool.or_eq_false_iff, beq_eq_false_iff_ne] at h1
  unfold Pd
  rw [if_neg (by rw [h1.1.1.1.1]; decide), if_neg (by rw [h1.1.1.1.2]; decide), if_neg (by rw [h1.1.1.2]; decide), if_neg h1.1.2, if_neg (fun e => by rcases e with e | e; exact h1.2.1 e; exact h1.2.2 e)]
  trivial
theorem start_pre (l : Array Bool) (h : (List.range 78).all (fun i => !l.getD i false || preL.contains i) = true) (i : Nat) (hi : i < 78) (hl : l.getD i false = true) : preL.contains i = true := by
  have h1 := List.all_eq_true.1 h i (List.mem_range.2 hi)
  rw [hl] at h1
  simpa using h1
theorem put_10 (x : Nat → Value) (v : Value) : (mkA x).put (some 10) v = mkA (upd x 10 v) := rfl
theorem put_11 (x : Nat → Value) (v : Value) : (mkA x).put (some 11) v = mkA (upd x 11 v) := rfl
theorem put_13 (x : Nat → Value) (v : Value) : (mkA x).put (some 13) v = mkA (upd x 13 v) := rfl
theorem put_14 (x : Nat → Value) (v : Value) : (mkA x).put (some 14) v = mkA (upd x 14 v) := rfl
theorem put_17 (x : Nat → Value) (v : Value) : (mkA x).put (some 17) v = mkA (upd x 17 v) := rfl
theorem put_18 (x : Nat → Value) (v : Value) : (mkA x).put (some 18) v = mkA (upd x 18 v) := rfl
theorem put_21 (x : Nat → Value) (v : Value) : (mkA x).put (some 21) v = mkA (upd x 21 v) := rfl
theorem put_22 (x : Nat → Value) (v : Value) : (mkA x).put (some 22) v = mkA (upd x 22 v) := rfl
theorem put_26 (x : Nat → Value) (v : Value) : (mkA x).put (some 26) v = mkA (upd x 26 v) := rfl
theorem put_27 (x : Nat → Value) (v : Value) : (mkA x).put (some 27) v = mkA (upd x 27 v) := rfl
theorem put_28 (x : Nat → Value) (v : Value) : (mkA x).put (some 28) v = mkA (upd x 28 v) := rfl
theorem put_30 (x : Nat → Value) (v : Value) : (mkA x).put (some 30) v = mkA (upd x 30 v) := rfl
theorem put_43 (x : Nat → Value) (v : Value) : (mkA x).put (some 43) v = mkA (upd x 43 v) := rfl
theorem put_44 (x : Nat → Value) (v : Value) : (mkA x).put (some 44) v = mkA (upd x 44 v) := rfl
theorem put_45 (x : Nat → Value) (v : Value) : (mkA x).put (some 45) v = mkA (upd x 45 v) := rfl
theorem put_46 (x : Nat → Value) (v : Value) : (mkA x).put (some 46) v = mkA (upd x 46 v) := rfl
theorem put_47 (x : Nat → Value) (v : Value) : (mkA x).put (some 47) v = mkA (upd x 47 v) := rfl
theorem put_48 (x : Nat → Value) (v : Value) : (mkA x).put (some 48) v = mkA (upd x 48 v) := rfl
theorem put_50 (x : Nat → Value) (v : Value) : (mkA x).put (some 50) v = mkA (upd x 50 v) := rfl
theorem put_51 (x : Nat → Value) (v : Value) : (mkA x).put (some 51) v = mkA (upd x 51 v) := rfl
theorem put_52 (x : Nat → Value) (v : Value) : (mkA x).put (some 52) v = mkA (upd x 52 v) := rfl
theorem put_69 (x : Nat → Value) (v : Value) : (mkA x).put (some 69) v = mkA (upd x 69 v) := rfl
theorem put_70 (x : Nat → Value) (v : Value) : (mkA x).put (some 70) v = mkA (upd x 70 v) := rfl
theorem put_71 (x : Nat → Value) (v : Value) : (mkA x).put (some 71) v = mkA (upd x 71 v) := rfl
theorem put_72 (x : Nat → Value) (v : Value) : (mkA x).put (some 72) v = mkA (upd x 72 v) := rfl
theorem put_78 (x : Nat → Value) (v : Value) : (mkA x).put (some 78) v = mkA (upd x 78 v) := rfl
theorem put_79 (x : Nat → Value) (v : Value) : (mkA x).put (some 0) v = mkA (upd x 79 v) := rfl
section
variable {P : Program} {ops : Array Oper} {Q : Exit → Act → World → Prop} {md : Region.Mode}
theorem wpOp_ok {i : Nat} {o : Oper} {v : Value} {K : Act → World → Prop} {a : Act} {w w' : World} (dst : Option Tmp) (ho : ops[i]? = some o) (hg : o.guard = none) (hd : o.dst = dst) (hrun : (execOp a.eval o).run P w = .ok (.value v) w') (hK : K (a.put dst v) w') : wpOp P ops Q i K a w := by
  subst hd
  unfold wpOp
  rw [ho]
  have hw : Region.wanted o (yielded ops a.tmps) = true := by simp [Region.wanted, hg]
  simp only [hw, if_true]
  refine .inl ?_
  unfold Oper.wp
  rw [hrun]
  exact hK
theorem wpOp_stepS {i : Nat} {o : Oper} {K : Act → World → Prop} {a : Act} {w : World} (ho : ops[i]? = some o)
    (h : ∀ K' : Act → World → Prop, Shut (∀ a w, K a w → K' a w) → if Region.wanted o (yielded ops a.tmps) = true then Oper.wp P o a w K' Q else K' (a.put o.dst undef) w) : wpOp P ops Q i K a w := wpOp_step ho h
def depB (md : Region.Mode) (ops : Array Oper) (i j : Nat) : Bool := match ops[i]? with | some o => o.after.any fun e => Region.binds md e && e.on == j | none => false
theorem dep_of {listed : Array Bool} {i : Nat} (hr : i ∈ Region.ready md ops listed) (j : Nat) (h : depB md ops i j = true) : listed.getD j false = true := by
  obtain ⟨_, o, ho, hd⟩ := mem_ready.1 hr
  unfold depB at h
  rw [ho] at h
  obtain ⟨e, he, hb⟩ := Array.any_eq_true'.1 h
  simp only [Bool.and_eq_true, beq_iff_eq] at hb
  rw [← hb.2]
  exact hd e he hb.1
def ordB (ops : Array Oper) : Bool := (List.range ops.size).all fun i => match ops[i]? with | some o => o.after.all fun e => decide (e.on < i) | none => true
theorem ord_of (h : ordB ops = true) : ∀ (i : Nat) (o : Oper), ops[i]? = some o → ∀ e ∈ o.after, e.on < i := by
  intro i o ho e he
  unfold ordB at h
  rw [List.all_eq_true] at h
  have h1 := h i (List.mem_range.2 (Array.getElem?_eq_some_iff.1 ho).1)
  simp only [ho] at h1
  have := Array.all_eq_true_iff_forall_mem.1 h1 e he
  simpa using this
end
theorem inR_at {w : World} {g : Nat} {rs : RS} (h : At w g 60 (rsC rs)) (hw : Wd rs) (n : Nat) (hn : rs.length = n) (hm : n ≤ 100) : InR w AnyB ⟨some ⟨g, 0, none⟩, n, n⟩ rs := by
  refine ⟨⟨hn, hw, fun _ => ⟨g, 0, rfl, h.lt, trivial, fun i r hr => ?_⟩⟩, Nat.le_refl _, by unfold maxLen; show n ≤ _; omega, fun e => by cases e⟩
  have := rsC_get rs i r hr
  rw [Nat.zero_add, h.cell, h.cell]
  exact this
theorem inD_at {w : World} {g : Nat} {T : TypeId} {bs : List Int} (h : At w g T (bs.map (Value.int .u8))) (hb : Byt bs) (n : Nat) (hn : bs.length = n) (hm : n ≤ 1000) : InD w AnyB ⟨some ⟨g, 0, none⟩, n, n⟩ bs := by
  refine ⟨⟨⟨hn, hb, fun _ => ⟨g, 0, rfl, h.lt, fun i hi => ?_⟩⟩, fun _ _ _ _ => trivial⟩, Nat.le_refl _, by unfold maxLen; show n ≤ _; omega, fun e => by cases e⟩
  have hi' : i < bs.length := by rw [hn]; exact hi
  rw [Nat.zero_add, h.cell, List.getElem?_map, List.getD_eq_getElem?_getD, List.getElem?_eq_getElem hi']
  rfl
theorem byt_zeros (n : Nat) : Byt (List.replicate n 0) := fun x hx => by rw [List.eq_of_mem_replicate hx]; omega
theorem madeL_u8' (n : Nat) : madeL (.int .u8 0) n = (List.replicate n (0 : Int)).map (Value.int .u8) := by
  unfold madeL madeCells
  refine List.ext_getElem (by simp) fun i h1 h2 => ?_
  simp [Value.cells, Nat.mod_one]
theorem madeL_u64' (n : Nat) : madeL (.int .u64 0) n = (List.replicate n (0 : Int)).map (Value.int .u64) := by
  unfold madeL madeCells
  refine List.ext_getElem (by simp) fun i h1 h2 => ?_
  simp [Value.cells, Nat.mod_one]
theorem usP_at {w : World} {g : Nat} {T : TypeId} {xs : List Int} (h : At w g T (xs.map (Value.int .u64))) (hb : ∀ x ∈ xs, 0 ≤ x ∧ x < 18446744073709551616) (n : Nat) (hn : xs.length = n) : UsP w AnyB (some ⟨g, 0, none⟩) n xs :=
  ⟨hn, hb, fun _ => ⟨g, 0, rfl, h.lt, trivial, fun i x hx => by rw [Nat.zero_add, h.cell, List.getElem?_map, hx]; rfl⟩⟩
theorem u64_info : (Try.prog.info? 25).map (fun i => (i.zero, i.size, i.bytes)) = some (some (.int .u64 0), 1, 8) := by kernel_rfl
/-- make([]T, n, n) as a run. -/
theorem run_mk {P : Program} {a : Act} {w : World} {o : Oper} (l c : Operand) (t : TypeId) (hop : o.op = Op.makeSlice t l c) (e : TypeId) (i : TypeInfo) (z : Value) (h1 : P.underlying t = some (.slice e)) (h2 : P.info? e = some i) (h3 : i.zero = some z) (h4 : i.size = 1)
    (n : Nat) (hl : a.eval l = .int .i64 (n : Int)) (hc : a.eval c = .int .i64 (n : Int)) (b2 : i.bytes * n ≤ 281474976710656) (b3 : n ≤ maxLen) :
    (execOp a.eval o).run P w = .ok (.value (.slice (some ⟨w.heap.size, 0, none⟩) n n)) (w.alloc (.cells (madeL z n).toArray e)) := by
  have hb' : (i.bytes : Int) * (n : Int) ≤ 281474976710656 := by
    have : ((i.bytes * n : Nat) : Int) ≤ 281474976710656 := by omega
    simpa using this
  have hrun := run_make (P := P) (w := w) t e i z h1 h2 h3 .i64 .i64 (n : Int) (n : Int) (by omega) (by omega) hb' (by unfold maxLen at b3; omega)
  simp [execOp, hop, hl, hc, hrun, Result.andThen, h4, madeL]
/-- A conversion of a row of bytes to its own type, wherever it lies: its mark. -/
theorem run_conv_mark {P : Program} {w : World} (t e : TypeId) (g n c : Nat) (C : List Value) (ht : P.underlying t = some (.slice e)) (he : P.underlying e = some (.int .u8)) (hA : At w g e C) :
    (convert t t (.slice (some ⟨g, 0, none⟩) n c)).run P w = .ok (.slice (some ⟨g, 0, none⟩) n c) (w.freeze ⟨g, C.length, none⟩ 1) := by
  have hsh : w.shape? g = some (e, C.length) := by
    unfold At at hA
    unfold World.shape?
    rw [hA]
    simp
  simp [convert, run_underlying ht, run_underlying he, markStringish, hsh]
theorem run_bs_op {a : Act} {w : World} {o : Oper} (n : Nat) (parts : Array (Nat × Operand)) (ho : o.op = .buildSlice 22 n parts) (L : List FR) (hn : L.length = n) (hp : 0 < n) (hm : n ≤ 1000)
    (hx : parts.toList.map (fun p => (p.1, a.eval p.2)) = (L.zipIdx 0).map fun z => (z.2, frV z.1.m z.1.d z.1.r)) :
    (execOp a.eval o).run Try.prog w = .ok (.value (.slice (some ⟨w.heap.size, 0, none⟩) n n)) (w.alloc (.cells (frsC L).toArray 31)) := by
  have hrun := run_bsN w L n hn hp hm
  have hq : parts.map (fun p => (p.1, a.eval p.2)) = ((L.zipIdx 0).map fun z => (z.2, frV z.1.m z.1.d z.1.r)).toArray := by
    apply Array.ext'; rw [Array.toList_map, hx]
  simp [execOp, ho, hq, hrun, Result.andThen]
theorem freeze_ext (w : World) (g k : Nat) : Ext w (w.freeze ⟨g, k, none⟩ 1) := by
  refine ⟨by simp [World.freeze], fun b off hb => ?_⟩
  unfold World.freeze
  rw [if_neg (by decide)]
  unfold World.cell?
  simp only [Array.getElem?_modify]
  by_cases e : g = b
  · subst e
    rcases hw : w.heap[g]? with _ | ob
    · simp
    · cases ob <;> simp
  · simp [e]
theorem freeze_below (w0 w : World) (g k : Nat) (h : Below w0.heap.size w0 w) (hg : w0.heap.size ≤ g) : Below w0.heap.size w0 (w.freeze ⟨g, k, none⟩ 1) := by
  refine ⟨h.os, h.tape, h.output, by have := h.size; simpa [World.freeze] using this, fun j hj => ?_⟩
  rw [← h.block j hj]
  unfold World.freeze
  rw [if_neg (by decide)]
  simp only [Array.getElem?_modify, show ¬ g = j by omega, if_false]
end Go.Proofs.Ytkahndjflhgccaa
