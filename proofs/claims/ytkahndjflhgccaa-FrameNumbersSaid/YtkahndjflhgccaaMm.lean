/-
  A slice literal of some whole frames.
-/
import Derived.Test.YtkahndjflhgccaaMh
import Derived.Test.YtkahndjflhgccaaMg
import Derived.Test.YtkahndjflhgccaaMf
import Derived.Test.YtkahndjflhgccaaMi
import Derived.Test.YtkahndjflhgccaaMe
import Derived.Test.YtkahndjflhgccaaCidk
import Derived.Test.YtkahndjflhgccaaMb
namespace Go.Proofs.Ytkahndjflhgccaa
section
set_option linter.unusedVariables false
set_option linter.unusedSimpArgs false
open Go.RowKit
theorem fold_at (off : Nat) : ∀ (l : List Value) (j : Nat) (C : Array Value), (l.zipIdx j).foldl (fun cs (x : Value × Nat) => cs.setIfInBounds (off + x.2) x.1) C = (setFrom C.toList (off + j) l).toArray
  | [], j, C => by simp [setFrom]
  | v :: r, j, C => by
    rw [List.zipIdx_cons, List.foldl_cons, fold_at off r (j + 1)]
    simp [setFrom, Nat.add_assoc]
theorem setFrom_app : ∀ (l1 l2 : List Value) (k : Nat) (C : List Value), setFrom (setFrom C k l1) (k + l1.length) l2 = setFrom C k (l1 ++ l2)
  | [], l2, k, C => by simp [setFrom]
  | v :: r, l2, k, C => by
    have := setFrom_app r l2 (k + 1) (C.set k v)
    simp only [setFrom, List.cons_append, List.length_cons]
    rw [← this]
    congr 1
    omega
theorem setFrom_size : ∀ (l : List Value) (k : Nat) (C : List Value), (setFrom C k l).length = C.length
  | [], k, C => by simp [setFrom]
  | v :: r, k, C => by
    have := setFrom_size r (k + 1) (C.set k v)
    simp only [setFrom]
    rw [this, List.length_set]
theorem fill_frs (N : Nat) : ∀ (L : List FR) (k : Nat) (C : Array Value), C.size = N * 19 → k + L.length ≤ N →
    Instr.fill (fun i => some (i * 19, 19)) C ((L.zipIdx k).map fun x => (x.2, frV x.1.m x.1.d x.1.r)) = some (setFrom C.toList (k * 19) (frsC L)).toArray
  | [], k, C, hC, hk => by simp [Instr.fill, frsC, setFrom]
  | x :: t, k, C, hC, hk => by
    rw [List.zipIdx_cons, List.map_cons]
    unfold Instr.fill
    have h1 : (frV x.m x.d x.r).cells = (frL x.m x.d x.r).toArray := rfl
    have h2 : (frL x.m x.d x.r).length = 19 := rfl
    have h3 : ((frL x.m x.d x.r).toArray.zipIdx.foldl (fun cs (c, j) => cs.setIfInBounds (k * 19 + j) c) C) = (setFrom C.toList (k * 19) (frL x.m x.d x.r)).toArray := by
      have := fold_at (k * 19) (frL x.m x.d x.r) 0 C
      rw [Nat.add_zero] at this
      rw [← this]
      simp
    simp only [h1, List.size_toArray, h2]
    simp only [List.length_cons] at hk
    rw [if_neg (by simp [hC]; omega), h3, fill_frs N t (k + 1) _ (by simp [setFrom_size, hC]) (by omega)]
    have h4 := setFrom_app (frL x.m x.d x.r) (frsC t) (k * 19) C.toList
    rw [h2] at h4
    have h5 : frsC (x :: t) = frL x.m x.d x.r ++ frsC t := by unfold frsC; rw [List.flatMap_cons]
    rw [h5, ← h4, show (k + 1) * 19 = k * 19 + 19 by omega]
theorem run_bsN (w : World) (L : List FR) (n : Nat) (hn : L.length = n) (hp : 0 < n) (hm : n ≤ 1000) :
    (Instr.buildSlice 22 n ((L.zipIdx 0).map fun x => (x.2, frV x.1.m x.1.d x.1.r)).toArray).run Try.prog w = .ok (.slice (some ⟨w.heap.size, 0, none⟩) n n) (w.alloc (.cells (frsC L).toArray 31)) := by
  have hI := fr_info3
  cases hq : Try.prog.info? 31 with
  | none => rw [hq] at hI; cases hI
  | some i =>
    rw [hq] at hI
    simp only [Option.map_some, Option.some.injEq, Prod.mk.injEq] at hI
    obtain ⟨hz, hs, _⟩ := hI
    have hf : ∀ C : Array Value, C.size = n * 19 → Instr.fill (fun i => some (i * 19, 19)) C ((L.zipIdx 0).map fun x => (x.2, frV x.1.m x.1.d x.1.r)) = some (frsC L).toArray := by
      intro C hC
      rw [fill_frs n L 0 C hC (by omega), Nat.zero_mul, setFrom_all _ _ (by rw [frsC_len, hn]; simp [hC])]
    have hu := Try.underlying22
    have h1 : ¬ (2 ^ 24 < n * 19) := by omega
    have h2 : ¬ (n * 19 = 0) := by omega
    simp [Instr.buildSlice, run_underlying hu, sizeOf, typeInfo, hq, hs, zeroValue, hz, newRow, h1, h2]
    rw [hf _ (by simp)]
    simp
end
section
set_option linter.unusedVariables false
set_option linter.unusedSimpArgs false
open Go.RowKit
theorem OwnR.nil_ (w : World) (base : Nat) : OwnR w base (.slice none 0 0) [] := ⟨World.ownsRow_nil w _ _ _, fun r hr => by cases hr⟩
/-- What the loop keeps. -/
structure KrL (w : World) (from_ : Int) (j : Nat) (v : Value) (wr : World) (at_ : Int) (rs : RS) : Prop where
  own : OwnR wr w.heap.size v rs
  ok : stepsOK (-1) rs = true
  len : rs.length = j
  last : (rs = [] ∧ at_ = from_) ∨ ∃ pre lo hi, rs = pre ++ [(lo, hi)] ∧ at_ = hi + 1
  a0 : from_ ≤ at_
  a1 : at_ ≤ from_ + 51 * j
  bl : Below w.heap.size w wr
theorem krl_step (rs : RS) (at_ lo hi from_ : Int) (hok : stepsOK (-1) rs = true) (hl : (rs = [] ∧ at_ = from_) ∨ ∃ pre lo hi, rs = pre ++ [(lo, hi)] ∧ at_ = hi + 1) (h0 : 0 ≤ from_) (h1 : at_ ≤ lo) (h2 : lo < hi) : stepsOK (-1) (rs ++ [(lo, hi)]) = true := by
  rcases hl with ⟨rfl, e⟩ | ⟨pre, a, b, rfl, e⟩
  · simp [stepsOK]; omega
  · rw [steps_snoc, hok]; simp; omega
theorem krl_rr (rs : RS) (at_ from_ : Int) (j : Nat) (hok : stepsOK (-1) rs = true) (hl : (rs = [] ∧ at_ = from_) ∨ ∃ pre lo hi, rs = pre ++ [(lo, hi)] ∧ at_ = hi + 1) (hlen : rs.length = j) (hj : j ≤ 16) (h1 : 1 ≤ j) (ha : at_ ≤ 4611686018427387904) : rrB rs = true := by
  rcases hl with ⟨rfl, e⟩ | ⟨pre, a, b, rfl, e⟩
  · simp at hlen; omega
  · unfold rrB lastHi
    rw [hok]
    simp at hlen ⊢
    omega
def KrPost (w : World) (e : Ending) (w' : World) : Prop := ∃ (d : Sl) (rs : RS), e = .returned (.slice d.A d.n d.c) ∧ InR w' (fun b => w.heap.size ≤ b) d rs ∧ rrB rs = true ∧ Below w.heap.size w w'
theorem OwnR.inR_ {w : World} {base n c : Nat} {A : Option Addr} {rs : RS} (h : OwnR w base (.slice A n c) rs) : InR w (fun b => base ≤ b) ⟨A, n, c⟩ rs := by
  obtain ⟨A', c', e, hi⟩ := h.open_ _ rfl
  injection e with e1 e2 e3
  subst e1; subst e2; subst e3
  exact ⟨hi.rd.mono (fun b _ hb => (h.block_lt b hb).1), hi.lc, hi.cm, hi.nil⟩
set_option maxRecDepth 100000 in
set_option maxHeartbeats 2000000 in
theorem kranges_any (P : Nat → Prop) (A : Option Addr) (n c : Nat) (xs : List Int) (from_ : Int) (w : World) (hu : UsP w P A n xs) (hnc : n ≤ c) (hcm : c ≤ maxLen) (h0 : 0 ≤ from_) (h1 : from_ < 1000) :
    Calls Try.prog 26 #[.slice A n c, .int .u64 from_] w (KrPost w) := by
  obtain ⟨hxl, hxb, hcell⟩ := hu
  unfold maxLen at hcm
  have HI : Hid (KrL w from_ 0 (.slice none 0 0) w from_ []) := Lib.hid ⟨OwnR.nil_ _ _, rfl, rfl, .inl ⟨rfl, rfl⟩, Int.le_refl _, by simp, Below.refl _ _⟩
  go_enter Try.func26, Try.ntmps26
  go_wp2
  go_loopw [5, 6, 7] (fun o t i wr => ∃ (j ii : Nat) (A' : Option Addr) (n' c' : Nat) (a : Int) (rs : RS), o = .slice A' n' c' ∧ t = .int .u64 a ∧ i = .int .i64 ii ∧ ii = 2 * j ∧ j ≤ 16 ∧ ii ≤ n + 1 ∧ n' = j ∧ Hid (KrL w from_ j (.slice A' n' c') wr a rs)) (fun _ _ i _ => 40 - (intOf i).toNat)
  case atStart => exact ⟨0, 0, _, _, _, _, _, rfl, rfl, rfl, rfl, by omega, by omega, rfl, HI⟩
  case round =>
    clear HI
    obtain ⟨j, ii, A', n', c', a, rs, rfl, rfl, rfl, hij, hj16, hin, hnj, hat⟩ := hrel
    subst hnj; subst hij
    have ha0 := hat.out.a0
    have ha1 := hat.out.a1
    have hlen := hat.out.len
    by_cases hgo : (2 * n') + 1 < n ∧ n' < 16
    · obtain ⟨g1, g2⟩ := hgo
      obtain ⟨b, off, rfl, hb, _, hc⟩ := hcell (by omega)
      obtain ⟨x, hx⟩ : ∃ x, xs[(2 * n')]? = some x := ⟨_, List.getElem?_eq_getElem (by omega)⟩
      obtain ⟨y, hy⟩ : ∃ y, xs[(2 * n') + 1]? = some y := ⟨_, List.getElem?_eq_getElem (by omega)⟩
      have hxb' := hxb x (List.mem_of_getElem? hx)
      have hyb' := hxb y (List.mem_of_getElem? hy)
      have cx : wr.cell? ⟨b, off + (2 * n'), none⟩ = some (.int .u64 x) := (hat.out.bl.cell (p := ⟨b, _, none⟩) hb).trans (hc (2 * n') x hx)
      have cy : wr.cell? ⟨b, off + ((2 * n') + 1), none⟩ = some (.int .u64 y) := (hat.out.bl.cell (p := ⟨b, _, none⟩) hb).trans (hc ((2 * n') + 1) y hy)
      have tx : x.tmod 30 = x % 30 := Int.tmod_eq_emod_of_nonneg hxb'.1
      have ty : y.tmod 20 = y % 20 := Int.tmod_eq_emod_of_nonneg hyb'.1
      obtain ⟨x30, hx30⟩ : ∃ z, x % 30 = z := ⟨_, rfl⟩
      obtain ⟨y20, hy20⟩ : ∃ z, y % 20 = z := ⟨_, rfl⟩
      have bx : 0 ≤ x30 ∧ x30 < 30 := by omega
      have by_ : 0 ≤ y20 ∧ y20 < 20 := by omega
      have ha2 : a ≤ 2000 := by omega
      have hwd : Wd [(a + x30, a + x30 + 1 + y20)] := fun r hr => by simp at hr; subst hr; exact ⟨by show 0 ≤ a + x30; omega, by show a + x30 < _; omega, by show 0 ≤ a + x30 + 1 + y20; omega, by show a + x30 + 1 + y20 < _; omega⟩
      have hok := krl_step rs a (a + x30) (a + x30 + 1 + y20) from_ hat.out.ok hat.out.last h0 (by omega) (by omega)
      have HOA := Lib.hid (hat.out.own.kept ((Kept.refl (fun _ => False) wr).alloc (.cells #[.int .u64 (a + x30), .int .u64 (a + x30 + 1 + y20)] 60)) (fun _ _ h => h))
      have HCA := Lib.hid (At.new wr 60 [.int .u64 (a + x30), .int .u64 (a + x30 + 1 + y20)])
      have HBA := Lib.hid (hat.out.bl.alloc hat.out.bl.size (.cells #[.int .u64 (a + x30), .int .u64 (a + x30 + 1 + y20)] 60))
      have HOK := Lib.hid hok
      clear hat hxb hcell hc hx hy hok
      go_wp2_with (at_builtin; go_loud (refine wpList_append_r rfl (.tmp 39) (.tmp 43) rfl w.heap.size _ rs rfl HOA.out wr.heap.size 1 (a + x30) (a + x30 + 1 + y20) (by rfl) HCA.out hwd (by omega) (by have := HBA.out.size; omega) ?_); intro v7 w7 hown7 hgr7 hv7; obtain ⟨A7, c7, rfl, _⟩ := hown7.open_ (n' + 1) (by simp [hlen]))
      have K7 := Kept.of_grown (S := fun k => (Value.slice A' n' c').ownBlock = some k) hgr7 (fun k hk => .inl hk)
      have HF : Hid (KrL w from_ (n' + 1) (.slice A7 (n' + 1) c7) w7 (a + x30 + 1 + y20 + 1) (rs ++ [(a + x30, a + x30 + 1 + y20)])) := Lib.hid
        ⟨hown7, HOK.out, by simp [hlen], .inr ⟨rs, _, _, rfl, rfl⟩, by omega, by simp only [Int.natCast_add, Int.natCast_one]; omega, K7.below HBA.out HBA.out.size (fun k hk => (HOA.out.block_lt k hk).1)⟩
      clear K7 hown7 hgr7 hv7 HOA HCA HBA HOK hwd cx cy
      go_wp2_with fail
      go_roundw
      case rel => exact ⟨n' + 1, (2 * n') + 2, _, _, _, _, _, rfl, rfl, by go_num, by omega, by omega, by omega, rfl, HF⟩
      case measure => simp [intOf] <;> omega
    · have hown := hat.out.own
      have hrr : 1 ≤ n' → rrB rs = true := fun h => krl_rr rs a from_ n' hat.out.ok hat.out.last hlen hj16 h (by omega)
      have hin' := hown.inR_
      have HIN := Lib.hid hin'
      have HRR := Lib.hid hrr
      have HBL := Lib.hid hat.out.bl
      clear hat hown hrr hin' hcell
      have hcase : ¬ ((2 * n') + 1 < n) ∨ (((2 * n') + 1 < n) ∧ n' = 16) := by omega
      rcases Nat.eq_zero_or_pos n' with h0n | h0n
      · subst h0n
        have hstop : ¬ (2 * 0 + 1 < n) := fun h => hgo ⟨h, by omega⟩
        have hwd : Wd [(from_, from_ + 1)] := fun r hr => by simp at hr; subst hr; exact ⟨h0, by show from_ < _; omega, by show 0 ≤ from_ + 1; omega, by show from_ + 1 < _; omega⟩
        have HO1 := Lib.hid (OwnR.one wr w.heap.size wr.heap.size from_ (from_ + 1) rfl HBL.out.size hwd).inR_
        have HB1 := Lib.hid (HBL.out.alloc HBL.out.size (.cells #[.int .u64 from_, .int .u64 (from_ + 1)] 60))
        have hrr1 : rrB [(from_, from_ + 1)] = true := by
          simp [rrB, stepsOK, lastHi]
          exact ⟨⟨by omega, by omega⟩, decide_eq_true (by omega)⟩
        have HR1 := Lib.hid hrr1
        clear hwd hrr1 hcase
        go_wp2_with fail
        go_ret
        exact ⟨⟨some ⟨wr.heap.size, 0, none⟩, 1, 1⟩, [(from_, from_ + 1)], rfl, HO1.out, HR1.out, HB1.out⟩
      · rcases hcase with hstop | ⟨hs1, hs2⟩
        · go_wp2_with fail
          go_ret
          exact ⟨⟨A', n', c'⟩, rs, rfl, HIN.out, HRR.out h0n, HBL.out⟩
        · subst hs2
          go_wp2_with fail
          go_ret
          exact ⟨⟨A', 16, c'⟩, rs, rfl, HIN.out, HRR.out (by decide), HBL.out⟩
section
variable {P : Program} {ops : Array Oper} {rest : List Oper} {a : Act} {w : World} {Q : Exit → Act → World → Prop} {dst : Option Tmp} {x y : Operand} {ty t : TypeId} {pos : String} {after : Array Edge}
end
/-- A drawn frame's cells. -/
def fL (K A B C : Int) (d : Sl) (fin : Bool) (rw_ : Sl) (N : Int) : List Value := [.int .i64 K, .int .u64 A, .int .u64 B, .int .u64 C, .slice d.A d.n d.c, .bool fin, .slice rw_.A rw_.n rw_.c, .int .i64 N]
structure FIn (w : World) (P : Nat → Prop) (K A B C : Int) (d : Sl) (ds : List Int) (ro : Sl) (xs : List Int) (N : Int) : Prop where
  k : -9223372036854775808 ≤ K ∧ K ≤ 9223372036854775807
  a : 0 ≤ A ∧ A < 18446744073709551616
  b : 0 ≤ B ∧ B < 18446744073709551616
  c : 0 ≤ C ∧ C < 18446744073709551616
  d : InD w P d ds
  u : UsP w P ro.A ro.n xs
  lc : ro.n ≤ ro.c
  cm : ro.c ≤ maxLen
  n : -9223372036854775808 ≤ N ∧ N ≤ 9223372036854775807
/-- A frame as it is drawn. -/
structure FX where
  K : Int
  A : Int
  B : Int
  C : Int
  d : Sl
  fin : Bool
  ro : Sl
  N : Int
  ds : List Int
  xs : List Int
def FX.l (x : FX) : List Value := fL x.K x.A x.B x.C x.d x.fin x.ro x.N
def FX.ok (w : World) (P : Nat → Prop) (x : FX) : Prop := FIn w P x.K x.A x.B x.C x.d x.ds x.ro x.xs x.N
theorem FIn.kept {S P : Nat → Prop} {w w' : World} {K A B C N : Int} {d ro : Sl} {ds xs : List Int} (h : FIn w P K A B C d ds ro xs N) (k : Kept S w w') (hs : ∀ b, P b → ¬ S b) : FIn w' P K A B C d ds ro xs N :=
  ⟨h.k, h.a, h.b, h.c, h.d.kept k hs, h.u.kept k hs, h.lc, h.cm, h.n⟩
theorem UsP.mono_ {P P' : Nat → Prop} {w : World} {n : Nat} {A : Option Addr} {xs : List Int} (h : UsP w P A n xs) (hp : ∀ b, b < w.heap.size → P b → P' b) : UsP w P' A n xs :=
  ⟨h.1, h.2.1, fun hn => by obtain ⟨b, off, e, hb, hP, hc⟩ := h.2.2 hn; exact ⟨b, off, e, hb, hp b hb hP, hc⟩⟩
theorem FIn.mono {P P' : Nat → Prop} {w : World} {K A B C N : Int} {d ro : Sl} {ds xs : List Int} (h : FIn w P K A B C d ds ro xs N) (hp : ∀ b, b < w.heap.size → P b → P' b) : FIn w P' K A B C d ds ro xs N :=
  ⟨h.k, h.a, h.b, h.c, h.d.mono hp, h.u.mono_ hp, h.lc, h.cm, h.n⟩
/-- The slice value with address A and n elements reads as the drawn frames X. -/
def FxP (w : World) (A : Option Addr) (n : Nat) (X : List FX) : Prop :=
  X.length = n ∧ (0 < n → ∃ b off, A = some ⟨b, off, none⟩ ∧ b < w.heap.size ∧ ∀ (i : Nat) (x : FX), X[i]? = some x → w.rangeAt b (off + i * 8) x.l) ∧ ∀ x ∈ X, x.ok w (fun _ => True)
theorem FxP.below {w w' : World} {A : Option Addr} {n : Nat} {X : List FX} (h : FxP w A n X) (k : Below w.heap.size w w') : FxP w' A n X := by
  refine ⟨h.1, fun hn => ?_, fun x hx => (h.2.2 x hx).kept (Kept.of_below k (fun _ => False)) (fun _ _ h => h)⟩
  obtain ⟨b, off, e, hb, hc⟩ := h.2.1 hn
  exact ⟨b, off, e, Nat.lt_of_lt_of_le hb k.size, fun i x hx => rangeAt_kept (hc i x hx) (Kept.of_below k (fun _ => False)) hb (fun h => h)⟩
section
variable {ops : Array Oper} {rest : List Oper} {a : Act} {w : World} {Q : Exit → Act → World → Prop} {dst : Option Tmp} {x y : Operand} {t : TypeId} {pos : String} {after : Array Edge} {g : Option (Nat × Bool)}
end
end
end Go.Proofs.Ytkahndjflhgccaa
