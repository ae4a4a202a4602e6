/-
  keep.Frame of any F (out of XKframes, without rows of frames: XEat and XQa clash).
-/
import Derived.Test.YtphpdaldplkgmaaGreatMq7
import Derived.Test.YtphpdaldplkgmaaGreatMq4
import Derived.Test.YtphpdaldplkgmaaGreatMq3
import Derived.Test.YtphpdaldplkgmaaGreatMq5
namespace Go.Proofs.YtphpdaldplkgmaaGreat
set_option linter.unusedVariables false
set_option linter.unusedSimpArgs false
open Go.RowKit
theorem OwnR.nil_ (w : World) (base : Nat) : OwnR w base (.slice none 0 0) [] := ⟨World.ownsRow_nil w _ _ _, fun r hr => by cases hr⟩
/-- What the loop keeps. -/
structure KrL (w : World) (from_ : Int) (j : Nat) (v : Value) (wr : World) (at_ : Int) (rs : RS) : Prop where
  own : OwnR wr w.heap.size v rs
  ok : stepsOK (-1) rs = true
  len : rs.length = j
  last : (rs = [] ∧ at_ = from_) ∨ ∃ pre lo hi, rs = pre ++ [(lo, hi)] ∧ at_ = hi + 1
  a0 : from_ ≤ at_
  a1 : at_ ≤ from_ + 51 * j
  bl : Below w.heap.size w wr
theorem krl_step (rs : RS) (at_ lo hi from_ : Int) (hok : stepsOK (-1) rs = true) (hl : (rs = [] ∧ at_ = from_) ∨ ∃ pre lo hi, rs = pre ++ [(lo, hi)] ∧ at_ = hi + 1) (h0 : 0 ≤ from_) (h1 : at_ ≤ lo) (h2 : lo < hi) : stepsOK (-1) (rs ++ [(lo, hi)]) = true := by
  rcases hl with ⟨rfl, e⟩ | ⟨pre, a, b, rfl, e⟩
  · simp [stepsOK]; omega
  · rw [steps_snoc, hok]; simp; omega
theorem krl_rr (rs : RS) (at_ from_ : Int) (j : Nat) (hok : stepsOK (-1) rs = true) (hl : (rs = [] ∧ at_ = from_) ∨ ∃ pre lo hi, rs = pre ++ [(lo, hi)] ∧ at_ = hi + 1) (hlen : rs.length = j) (hj : j ≤ 16) (h1 : 1 ≤ j) (ha : at_ ≤ 4611686018427387904) : rrB rs = true := by
  rcases hl with ⟨rfl, e⟩ | ⟨pre, a, b, rfl, e⟩
  · simp at hlen; omega
  · unfold rrB lastHi
    rw [hok]
    simp at hlen ⊢
    omega
def KrPost (w : World) (e : Ending) (w' : World) : Prop := ∃ (d : Sl) (rs : RS), e = .returned (.slice d.A d.n d.c) ∧ InR w' (fun b => w.heap.size ≤ b) d rs ∧ rrB rs = true ∧ Below w.heap.size w w'
theorem OwnR.inR_ {w : World} {base n c : Nat} {A : Option Addr} {rs : RS} (h : OwnR w base (.slice A n c) rs) : InR w (fun b => base ≤ b) ⟨A, n, c⟩ rs := by
  obtain ⟨A', c', e, hi⟩ := h.open_ _ rfl
  injection e with e1 e2 e3
  subst e1; subst e2; subst e3
  exact ⟨hi.rd.mono (fun b _ hb => (h.block_lt b hb).1), hi.lc, hi.cm, hi.nil⟩
set_option maxRecDepth 100000 in
set_option maxHeartbeats 2000000 in
theorem kranges_any (P : Nat → Prop) (A : Option Addr) (n c : Nat) (xs : List Int) (from_ : Int) (w : World) (hu : UsP w P A n xs) (hnc : n ≤ c) (hcm : c ≤ maxLen) (h0 : 0 ≤ from_) (h1 : from_ < 1000) :
    Calls Tryz.prog 37 #[.slice A n c, .int .u64 from_] w (KrPost w) := by
  obtain ⟨hxl, hxb, hcell⟩ := hu
  unfold maxLen at hcm
  have HI : Hid (KrL w from_ 0 (.slice none 0 0) w from_ []) := Lib.hid ⟨OwnR.nil_ _ _, rfl, rfl, .inl ⟨rfl, rfl⟩, Int.le_refl _, by simp, Below.refl _ _⟩
  go_enter Tryz.func37, Tryz.ntmps37
  go_wp2
  go_loopw [5, 6, 7] (fun o t i wr => ∃ (j ii : Nat) (A' : Option Addr) (n' c' : Nat) (a : Int) (rs : RS), o = .slice A' n' c' ∧ t = .int .u64 a ∧ i = .int .i64 ii ∧ ii = 2 * j ∧ j ≤ 16 ∧ ii ≤ n + 1 ∧ n' = j ∧ Hid (KrL w from_ j (.slice A' n' c') wr a rs)) (fun _ _ i _ => 40 - (intOf i).toNat)
  case atStart => exact ⟨0, 0, _, _, _, _, _, rfl, rfl, rfl, rfl, by omega, by omega, rfl, HI⟩
  case round =>
    clear HI
    obtain ⟨j, ii, A', n', c', a, rs, rfl, rfl, rfl, hij, hj16, hin, hnj, hat⟩ := hrel
    subst hnj; subst hij
    have ha0 := hat.out.a0
    have ha1 := hat.out.a1
    have hlen := hat.out.len
    by_cases hgo : (2 * n') + 1 < n ∧ n' < 16
    · obtain ⟨g1, g2⟩ := hgo
      obtain ⟨b, off, rfl, hb, _, hc⟩ := hcell (by omega)
      obtain ⟨x, hx⟩ : ∃ x, xs[(2 * n')]? = some x := ⟨_, List.getElem?_eq_getElem (by omega)⟩
      obtain ⟨y, hy⟩ : ∃ y, xs[(2 * n') + 1]? = some y := ⟨_, List.getElem?_eq_getElem (by omega)⟩
      have hxb' := hxb x (List.mem_of_getElem? hx)
      have hyb' := hxb y (List.mem_of_getElem? hy)
      have cx : wr.cell? ⟨b, off + (2 * n'), none⟩ = some (.int .u64 x) := (hat.out.bl.cell (p := ⟨b, _, none⟩) hb).trans (hc (2 * n') x hx)
      have cy : wr.cell? ⟨b, off + ((2 * n') + 1), none⟩ = some (.int .u64 y) := (hat.out.bl.cell (p := ⟨b, _, none⟩) hb).trans (hc ((2 * n') + 1) y hy)
      have tx : x.tmod 30 = x % 30 := Int.tmod_eq_emod_of_nonneg hxb'.1
      have ty : y.tmod 20 = y % 20 := Int.tmod_eq_emod_of_nonneg hyb'.1
      obtain ⟨x30, hx30⟩ : ∃ z, x % 30 = z := ⟨_, rfl⟩
      obtain ⟨y20, hy20⟩ : ∃ z, y % 20 = z := ⟨_, rfl⟩
      have bx : 0 ≤ x30 ∧ x30 < 30 := by omega
      have by_ : 0 ≤ y20 ∧ y20 < 20 := by omega
      have ha2 : a ≤ 2000 := by omega
      have hwd : Wd [(a + x30, a + x30 + 1 + y20)] := fun r hr => by simp at hr; subst hr; exact ⟨by show 0 ≤ a + x30; omega, by show a + x30 < _; omega, by show 0 ≤ a + x30 + 1 + y20; omega, by show a + x30 + 1 + y20 < _; omega⟩
      have hok := krl_step rs a (a + x30) (a + x30 + 1 + y20) from_ hat.out.ok hat.out.last h0 (by omega) (by omega)
      have HOA := Lib.hid (hat.out.own.kept ((Kept.refl (fun _ => False) wr).alloc (.cells #[.int .u64 (a + x30), .int .u64 (a + x30 + 1 + y20)] 81)) (fun _ _ h => h))
      have HCA := Lib.hid (At.new wr 81 [.int .u64 (a + x30), .int .u64 (a + x30 + 1 + y20)])
      have HBA := Lib.hid (hat.out.bl.alloc hat.out.bl.size (.cells #[.int .u64 (a + x30), .int .u64 (a + x30 + 1 + y20)] 81))
      have HOK := Lib.hid hok
      clear hat hxb hcell hc hx hy hok
      go_wp2_with (at_builtin; go_loud (refine wpList_append_r rfl (.tmp 39) (.tmp 43) rfl w.heap.size _ rs rfl HOA.out wr.heap.size 1 (a + x30) (a + x30 + 1 + y20) (by rfl) HCA.out hwd (by omega) (by have := HBA.out.size; omega) ?_); intro v7 w7 hown7 hgr7 hv7; obtain ⟨A7, c7, rfl, _⟩ := hown7.open_ (n' + 1) (by simp [hlen]))
      have K7 := Kept.of_grown (S := fun k => (Value.slice A' n' c').ownBlock = some k) hgr7 (fun k hk => .inl hk)
      have HF : Hid (KrL w from_ (n' + 1) (.slice A7 (n' + 1) c7) w7 (a + x30 + 1 + y20 + 1) (rs ++ [(a + x30, a + x30 + 1 + y20)])) := Lib.hid
        ⟨hown7, HOK.out, by simp [hlen], .inr ⟨rs, _, _, rfl, rfl⟩, by omega, by simp only [Int.natCast_add, Int.natCast_one]; omega, K7.below HBA.out HBA.out.size (fun k hk => (HOA.out.block_lt k hk).1)⟩
      clear K7 hown7 hgr7 hv7 HOA HCA HBA HOK hwd cx cy
      go_wp2_with fail
      go_roundw
      case rel => exact ⟨n' + 1, (2 * n') + 2, _, _, _, _, _, rfl, rfl, by go_num, by omega, by omega, by omega, rfl, HF⟩
      case measure => simp [intOf] <;> omega
    · have hown := hat.out.own
      have hrr : 1 ≤ n' → rrB rs = true := fun h => krl_rr rs a from_ n' hat.out.ok hat.out.last hlen hj16 h (by omega)
      have hin' := hown.inR_
      have HIN := Lib.hid hin'
      have HRR := Lib.hid hrr
      have HBL := Lib.hid hat.out.bl
      clear hat hown hrr hin' hcell
      have hcase : ¬ ((2 * n') + 1 < n) ∨ (((2 * n') + 1 < n) ∧ n' = 16) := by omega
      rcases Nat.eq_zero_or_pos n' with h0n | h0n
      · subst h0n
        have hstop : ¬ (2 * 0 + 1 < n) := fun h => hgo ⟨h, by omega⟩
        have hwd : Wd [(from_, from_ + 1)] := fun r hr => by simp at hr; subst hr; exact ⟨h0, by show from_ < _; omega, by show 0 ≤ from_ + 1; omega, by show from_ + 1 < _; omega⟩
        have HO1 := Lib.hid (OwnR.one wr w.heap.size wr.heap.size from_ (from_ + 1) rfl HBL.out.size hwd).inR_
        have HB1 := Lib.hid (HBL.out.alloc HBL.out.size (.cells #[.int .u64 from_, .int .u64 (from_ + 1)] 81))
        have hrr1 : rrB [(from_, from_ + 1)] = true := by
          simp [rrB, stepsOK, lastHi]
          exact ⟨⟨by omega, by omega⟩, decide_eq_true (by omega)⟩
        have HR1 := Lib.hid hrr1
        clear hwd hrr1 hcase
        go_wp2_with fail
        go_ret
        exact ⟨⟨some ⟨wr.heap.size, 0, none⟩, 1, 1⟩, [(from_, from_ + 1)], rfl, HO1.out, HR1.out, HB1.out⟩
      · rcases hcase with hstop | ⟨hs1, hs2⟩
        · go_wp2_with fail
          go_ret
          exact ⟨⟨A', n', c'⟩, rs, rfl, HIN.out, HRR.out h0n, HBL.out⟩
        · subst hs2
          go_wp2_with fail
          go_ret
          exact ⟨⟨A', 16, c'⟩, rs, rfl, HIN.out, HRR.out (by decide), HBL.out⟩
section
variable {P : Program} {ops : Array Oper} {rest : List Oper} {a : Act} {w : World} {Q : Exit → Act → World → Prop} {dst : Option Tmp} {x y : Operand} {ty t : TypeId} {pos : String} {after : Array Edge}
/-- The store of some cells within a block. -/
theorem wpList_store_in (p o : Nat) (T : TypeId) (l l' vs : List Value) (hx : a.eval x = .pointer (some ⟨p, o, none⟩)) (hy : a.eval y = .agg vs.toArray) (hA : At w p T l) (hl : o + vs.length ≤ l.length)
    (hi : (P.info? ty).map (·.size) = some vs.length) (h1 : vs.all (·.oneCell') = true) (hres : setFrom l o vs = l') (h : ∀ w', At w' p T l' → Kept (· = p) w w' → wpList P ops Q rest (a.put dst undef) w') :
    wpList P ops Q (⟨dst, .store ty x y, t, pos, after, none⟩ :: rest) a w := by
  refine wpList_store_mid rfl ty x y rfl p o vs.toArray hx hy (fun j hj => ?_) (by simpa using hi) (by simpa using h1) ?_
  · simp at hj
    rw [hA.cell, hA.frozen]
    simp
    omega
  · have := At.setFrom vs l o w hA
    rw [hres] at this
    exact h _ (by simpa using this) (by simpa using Kept.setCells (S := (· = p)) rfl vs o w (Kept.refl _ _))
theorem at_stcid {g : Option (Nat × Bool)} (h : wpList Tryz.prog ops Q (⟨dst, .store 52 x y, t, pos, after, g⟩ :: rest) a w) : wpList Tryz.prog ops Q (⟨dst, .store 52 x y, t, pos, after, g⟩ :: rest) a w := h
end
/-- A drawn frame's cells. -/
def fL (K A B C : Int) (d : Sl) (fin : Bool) (rw_ : Sl) (N : Int) : List Value := [.int .i64 K, .int .u64 A, .int .u64 B, .int .u64 C, .slice d.A d.n d.c, .bool fin, .slice rw_.A rw_.n rw_.c, .int .i64 N]
def KFPost (w : World) (P : Nat → Prop) (e : Ending) (w' : World) : Prop :=
  ∃ m d r ds rs, e = .returned (frV m d r) ∧ Fits w' P m d r ds rs ∧ rightB m ds rs = true ∧ Below w.heap.size w w'
structure FIn (w : World) (P : Nat → Prop) (K A B C : Int) (d : Sl) (ds : List Int) (ro : Sl) (xs : List Int) (N : Int) : Prop where
  k : -9223372036854775808 ≤ K ∧ K ≤ 9223372036854775807
  a : 0 ≤ A ∧ A < 18446744073709551616
  b : 0 ≤ B ∧ B < 18446744073709551616
  c : 0 ≤ C ∧ C < 18446744073709551616
  d : InD w P d ds
  u : UsP w P ro.A ro.n xs
  lc : ro.n ≤ ro.c
  cm : ro.c ≤ maxLen
  n : -9223372036854775808 ≤ N ∧ N ≤ 9223372036854775807
theorem cidX_b (n : Int) : 0 ≤ cidX n ∧ cidX n < 5 := by
  have := withinS_bd n 0 1048576 (by decide)
  unfold cidX; omega
theorem InD.cutD {w : World} {P : Nat → Prop} {d : Sl} {ds : List Int} (h : InD w P d ds) (k : Nat) : InD w P ⟨d.A, min d.n k, d.c⟩ (ds.take k) := by
  have e : min d.n k ≤ d.n := Nat.min_le_left _ _
  have h1 := h.rd.cutTo e
  have e2 : ds.take (min d.n k) = ds.take k := by
    rcases Nat.le_total d.n k with hk | hk
    · rw [Nat.min_eq_left hk, ← h.rd.1.1, List.take_length, List.take_of_length_le (by rw [h.rd.1.1]; exact hk)]
    · rw [Nat.min_eq_right hk]
  rw [e2] at h1
  exact ⟨h1, Nat.le_trans e h.lc, h.cm, h.nil⟩
set_option maxRecDepth 100000 in
set_option maxHeartbeats 8000000 in
theorem kframe_any (P : Nat → Prop) (K A B C : Int) (d : Sl) (fin : Bool) (ro : Sl) (N : Int) (ds xs : List Int) (w : World) (hP : ∀ b, w.heap.size ≤ b → P b) (hin : FIn w P K A B C d ds ro xs N) (j : Nat) (hj : withinS K 0 1048576 % 17 = (j : Int)) (kk : Int) (hk : kindsL[j]? = some kk) :
    Calls Tryz.prog 21 #[.agg (fL K A B C d fin ro N).toArray] w (KFPost w P) := by
  have hkk : kk = 0 ∨ kk = 1 ∨ kk = 2 ∨ kk = 4 ∨ kk = 5 ∨ kk = 6 ∨ kk = 8 ∨ kk = 16 ∨ kk = 17 ∨ kk = 18 ∨ kk = 20 ∨ kk = 24 ∨ kk = 25 ∨ kk = 26 ∨ kk = 27 ∨ kk = 28 ∨ kk = 30 := by simpa [kindsL] using List.mem_of_getElem? hk
  have hj17 : j < 17 := (List.getElem?_eq_some_iff.1 hk).1
  have HW := Lib.hid (fun W' => within_any K 0 1048576 W' hin.k.1 hin.k.2 (by decide) (by decide) (by decide))
  have hwb := withinS_bd K 0 1048576 (by decide)
  have HA := Lib.hid (fun W' => small_any A W' hin.a.1 hin.a.2)
  have HB := Lib.hid (fun W' => small_any B W' hin.b.1 hin.b.2)
  have HC := Lib.hid (fun W' => small_any C W' hin.c.1 hin.c.2)
  have hab := smallS_bd A hin.a.1
  have hbb := smallS_bd B hin.b.1
  have hcb := smallS_bd C hin.c.1
  have HIN := Lib.hid hin
  have hdl := hin.d.lc
  have hdm := hin.d.cm
  have hdn := hin.d.nil
  obtain ⟨z, hz⟩ : ∃ x, withinS K 0 1048576 = x := ⟨_, rfl⟩
  obtain ⟨a, ha⟩ : ∃ x, smallS A = x := ⟨_, rfl⟩
  obtain ⟨b, hb⟩ : ∃ x, smallS B = x := ⟨_, rfl⟩
  obtain ⟨c, hc⟩ : ∃ x, smallS C = x := ⟨_, rfl⟩
  rw [hz] at HW hwb hj
  rw [ha] at HA hab
  rw [hb] at HB hbb
  rw [hc] at HC hcb
  have tz : z.tmod 17 = z % 17 := Int.tmod_eq_emod_of_nonneg hwb.1
  clear hz ha hb hc hin
  have hBl : Below w.heap.size w ((w.alloc (.cells (fL K A B C d fin ro N).toArray 34)).alloc (.cells (frL (FN.zero 0) .nil .nil).toArray 54)) := ((Below.refl _ _).alloc (Nat.le_refl _) _).alloc (by simp) _
  have hX : At ((w.alloc (.cells (fL K A B C d fin ro N).toArray 34)).alloc (.cells (frL (FN.zero 0) .nil .nil).toArray 54)) w.heap.size 34 (fL K A B C d fin ro N) := (At.new w _ _).alloc _
  have hR : At ((w.alloc (.cells (fL K A B C d fin ro N).toArray 34)).alloc (.cells (frL (FN.zero 0) .nil .nil).toArray 54)) (w.heap.size + 1) 54 (frL (FN.zero 0) .nil .nil) := At.new_ _ _ _ (by simp)
  go_enter Tryz.func21, Tryz.ntmps21
  go_wp2_with fail
  have e0 : ∃ W, (w.alloc (.cells (fL K A B C d fin ro N).toArray 34)).alloc (.cells (frL (FN.zero 0) .nil .nil).toArray 54) = W := ⟨_, rfl⟩
  change Calls _ _ _ ((w.alloc (.cells (fL K A B C d fin ro N).toArray 34)).alloc (.cells (frL (FN.zero 0) .nil .nil).toArray 54)) _
  obtain ⟨w0, hw0⟩ := e0
  rw [hw0] at hBl hX hR ⊢
  clear hw0
  refine (kinds_any _).mono ?_
  rintro e w1 ⟨rfl, rfl⟩
  have hG0 := At.new w0 3 (kindsL.map (Value.int .i64))
  have hX1 := hX.alloc (.cells (kindsL.map (Value.int .i64)).toArray 3)
  have hR1 := hR.alloc (.cells (kindsL.map (Value.int .i64)).toArray 3)
  have hB1 := hBl.alloc hBl.size (.cells (kindsL.map (Value.int .i64)).toArray 3)
  have hlt := hR.lt
  obtain ⟨gk, hgk⟩ : ∃ g, w0.heap.size = g := ⟨_, rfl⟩
  obtain ⟨w1, hw1⟩ : ∃ x, w0.alloc (.cells (kindsL.map (Value.int .i64)).toArray 3) = x := ⟨_, rfl⟩
  rw [hgk] at hG0 hlt ⊢
  rw [hw1] at hG0 hX1 hR1 hB1 ⊢
  clear hgk hw1 hX hR hBl
  have x0 : w1.cell? ⟨w.heap.size, 0, none⟩ = some (.int .i64 K) := hX1.cell 0
  have ck : w1.cell? ⟨gk, j, none⟩ = some (.int .i64 kk) := by rw [hG0.cell, List.getElem?_map, hk]; rfl
  have hltk := hG0.lt
  clear hG0
  have hBF := Lib.hid (hB1.alloc (by have := hR1.lt; omega) (.cells (frL (FN.zero kk) .nil .nil).toArray 54))
  have hXF := Lib.hid (hX1.alloc (.cells (frL (FN.zero kk) .nil .nil).toArray 54))
  have hRF := Lib.hid (hR1.alloc (.cells (frL (FN.zero kk) .nil .nil).toArray 54))
  have hFF := Lib.hid (At.new w1 54 (frL (FN.zero kk) .nil .nil))
  clear hX1 hR1 hB1 hk
  obtain ⟨gf, hgf⟩ : ∃ g, w1.heap.size = g := ⟨_, rfl⟩
  rw [hgf] at hFF hltk
  obtain ⟨w2, hw2⟩ : ∃ x, w1.alloc (.cells (frL (FN.zero kk) .nil .nil).toArray 54) = x := ⟨_, rfl⟩
  rw [hw2] at hBF hXF hRF hFF
  go_wp2_with (first | (go_at_call 13; refine (HW.out _).mono ?_; rintro e w' ⟨rfl, rfl⟩) | ((with_reducible refine at_st ?_); refine st_top w1 (frL (FN.zero 0) .nil .nil) (frL (FN.zero kk) .nil .nil) (by rfl) gf (by rfl) hgf.symm (by rfl) rfl rfl (by rfl) ?_; rw [hw2]; clear hw2 x0 ck) | fail)
  have hBx : Below w.heap.size w w2.drew := belowN hBF.out 1
  have hX := hXF.out.drew
  have hR := hRF.out.drew
  have hF := hFF.out.drew
  have x1 : w2.drew.cell? ⟨w.heap.size, 1, none⟩ = some (.int .u64 A) := hX.cell 1
  have x2 : w2.drew.cell? ⟨w.heap.size, 2, none⟩ = some (.int .u64 B) := hX.cell 2
  have x3 : w2.drew.cell? ⟨w.heap.size, 3, none⟩ = some (.int .u64 C) := hX.cell 3
  (try rw [hgf])
  clear hBF hXF hRF hFF hgf
  refine wp_region_held_drew (S := fun w' => w'.cell? ⟨w.heap.size, 1, none⟩ = some (.int .u64 A) ∧ w'.cell? ⟨w.heap.size, 2, none⟩ = some (.int .u64 B) ∧ w'.cell? ⟨w.heap.size, 3, none⟩ = some (.int .u64 C)) (by kernel_rfl) ⟨x1, x2, x3⟩ (fun hHeld => ?_)
  obtain ⟨wA, hwA⟩ : ∃ x, w2.drew = x := ⟨_, rfl⟩
  rw [hwA] at hBx hX hR hF hHeld x1 x2 x3 ⊢
  clear hwA x1 x2 x3
  refine tkp 0 (some 19) (v := ?_) rfl (Or.inl ⟨by rfl, ?_⟩) (by assumption) ?_
  rotate_left
  · intro w hSw; (try dsimp only at hSw); go_simp; first | done | (with_reducible rfl)
  simp only [Act.put, List.setIfInBounds_toArray, List.set_cons_zero, List.set_cons_succ]
  refine tkp 1 (some 20) (v := ?_) rfl (Or.inl ⟨by rfl, ?_⟩) (by assumption) ?_
  rotate_left
  · intro w hSw; (try dsimp only at hSw); go_simp; first | done | (with_reducible rfl)
  simp only [Act.put, List.setIfInBounds_toArray, List.set_cons_zero, List.set_cons_succ]
  refine tkp 3 (some 22) (v := ?_) rfl (Or.inl ⟨by rfl, ?_⟩) (by assumption) ?_
  rotate_left
  · intro w hSw; (try dsimp only at hSw); go_simp; first | done | (with_reducible rfl)
  simp only [Act.put, List.setIfInBounds_toArray, List.set_cons_zero, List.set_cons_succ]
  refine tkp 4 (some 23) (v := ?_) rfl (Or.inl ⟨by rfl, ?_⟩) (by assumption) ?_
  rotate_left
  · intro w hSw; (try dsimp only at hSw); go_simp; first | done | (with_reducible rfl)
  simp only [Act.put, List.setIfInBounds_toArray, List.set_cons_zero, List.set_cons_succ]
  refine tkp 6 (some 25) (v := ?_) rfl (Or.inl ⟨by rfl, ?_⟩) (by assumption) ?_
  rotate_left
  · intro w hSw; (try dsimp only at hSw); go_simp; first | done | (with_reducible rfl)
  simp only [Act.put, List.setIfInBounds_toArray, List.set_cons_zero, List.set_cons_succ]
  refine tkp 7 (some 26) (v := ?_) rfl (Or.inl ⟨by rfl, ?_⟩) (by assumption) ?_
  rotate_left
  · intro w hSw; (try dsimp only at hSw); go_simp; first | done | (with_reducible rfl)
  simp only [Act.put, List.setIfInBounds_toArray, List.set_cons_zero, List.set_cons_succ]
  refine wpAnyH_ready (rs := [2]) (by kernel_rfl) (by simp) ?_
  refine AllReadyH.cons rfl (fun K hK => ?_) AllReadyH.nil
  go_simp
  go_wp2_with ((go_at_call 10; refine (HA.out _).mono ?_; rintro e wB ⟨rfl, hbC⟩))
  have hXn := hX.below hbC hX.lt
  have hRn := hR.below hbC hR.lt
  have hFn := hF.below hbC hF.lt
  have hBn := hBx.trans (hbC.mono hBx.size)
  refine hK.out _ _ ⟨hXn.cell 1, hXn.cell 2, hXn.cell 3⟩ (fun hHeld => ?_)
  clear hK K hX hR hF hBx hbC
  have hX := hXn
  have hR := hRn
  have hF := hFn
  have hBx := hBn
  clear hXn hRn hFn hBn
  refine wpAnyH_ready (rs := [5]) (by kernel_rfl) (by simp) ?_
  refine AllReadyH.cons rfl (fun K hK => ?_) AllReadyH.nil
  go_simp
  go_wp2_with ((go_at_call 10; refine (HB.out _).mono ?_; rintro e wC ⟨rfl, hbC⟩))
  have hXn := hX.below hbC hX.lt
  have hRn := hR.below hbC hR.lt
  have hFn := hF.below hbC hF.lt
  have hBn := hBx.trans (hbC.mono hBx.size)
  refine hK.out _ _ ⟨hXn.cell 1, hXn.cell 2, hXn.cell 3⟩ (fun hHeld => ?_)
  clear hK K hX hR hF hBx hbC
  have hX := hXn
  have hR := hRn
  have hF := hFn
  have hBx := hBn
  clear hXn hRn hFn hBn
  refine wpAnyH_ready (rs := [8]) (by kernel_rfl) (by simp) ?_
  refine AllReadyH.cons rfl (fun K hK => ?_) AllReadyH.nil
  go_simp
  go_wp2_with ((go_at_call 10; refine (HC.out _).mono ?_; rintro e wD ⟨rfl, hbC⟩))
  have hXn := hX.below hbC hX.lt
  have hRn := hR.below hbC hR.lt
  have hFn := hF.below hbC hF.lt
  have hBn := hBx.trans (hbC.mono hBx.size)
  refine hK.out _ _ ⟨hXn.cell 1, hXn.cell 2, hXn.cell 3⟩ (fun hHeld => ?_)
  clear hK K hX hR hF hBx hbC
  have hX := hXn
  have hR := hRn
  have hF := hFn
  have hBx := hBn
  clear hXn hRn hFn hBn
  refine tkp 9 (some 5) (v := ?_) rfl (Or.inl ⟨by rfl, ?_⟩) (by assumption) ?_
  rotate_left
  · intro w hSw; (try dsimp only at hSw); go_simp; first | done | (with_reducible rfl)
  simp only [Act.put, List.setIfInBounds_toArray, List.set_cons_zero, List.set_cons_succ]
  refine tkp 10 (some 6) (v := ?_) rfl (Or.inl ⟨by rfl, ?_⟩) (by assumption) ?_
  rotate_left
  · intro w hSw; (try dsimp only at hSw); go_simp; first | done | (with_reducible rfl)
  simp only [Act.put, List.setIfInBounds_toArray, List.set_cons_zero, List.set_cons_succ]
  refine tkp 11 (some 7) (v := ?_) rfl (Or.inl ⟨by rfl, ?_⟩) (by assumption) ?_
  rotate_left
  · intro w hSw; (try dsimp only at hSw); go_simp; first | done | (with_reducible rfl)
  simp only [Act.put, List.setIfInBounds_toArray, List.set_cons_zero, List.set_cons_succ]
  refine wpAnyH_done (by kernel_rfl) ?_ _
  clear hHeld HW HA HB HC
  have k0 : wD.cell? ⟨gf, 0, none⟩ = some (.int .i64 kk) := hF.cell 0
  have hgr := hR.lt
  rcases hkk with rfl | rfl | rfl | rfl | rfl | rfl | rfl | rfl | rfl | rfl | rfl | rfl | rfl | rfl | rfl | rfl | rfl
  · skip
    have hFz := hF
    have hRz := hR
    have hBz := hBx
    go_wp2_with (first | ((with_reducible refine at_ld ?_); refine ld_fr _ _ (by rfl) hFz rfl ?_) | ((with_reducible refine at_st ?_); refine st_at _ _ (frL ⟨0, 0, 0, false, 0, 0, 0, 0, 0, 0, 0, 0, 0, 0, 0, 0, 0⟩ .nil .nil) (by rfl) (by rfl) hRz rfl rfl (by rfl) ?_; intro w9 hR9 hk9) | fail)
    refine bodyPost_ret (results_cell 2 54 (by rfl) _ 54 _ _ (by rfl) hR9 Tryz.underlying54 rfl fr_info) rfl ?_
    have hB9 := hk9.below hBz (by omega) (fun j hj => by omega)
    refine ⟨⟨0, 0, 0, false, 0, 0, 0, 0, 0, 0, 0, 0, 0, 0, 0, 0, 0⟩, .nil, .nil, [], [], rfl, ⟨?_, InD.nil_ _ _, InR.nil_ _ _⟩, ?_, hB9⟩
    · constructor <;> first | (dsimp only; omega) | (intro x hx; simp at hx; omega)
    · simp [rightB, knownB, askN, FN.zero, nrB, smB, glS, drB, askDs] <;> omega
  · skip
    have hFz := hF
    have hRz := hR
    have hBz := hBx
    go_wp2_with (first | ((with_reducible refine at_ld ?_); refine ld_fr _ _ (by rfl) hFz rfl ?_) | ((with_reducible refine at_st ?_); refine st_at _ _ (frL ⟨1, 0, 0, false, 0, 0, 0, 0, 0, 0, 0, 0, 0, 0, 0, 0, 0⟩ .nil .nil) (by rfl) (by rfl) hRz rfl rfl (by rfl) ?_; intro w9 hR9 hk9) | fail)
    refine bodyPost_ret (results_cell 2 54 (by rfl) _ 54 _ _ (by rfl) hR9 Tryz.underlying54 rfl fr_info) rfl ?_
    have hB9 := hk9.below hBz (by omega) (fun j hj => by omega)
    refine ⟨⟨1, 0, 0, false, 0, 0, 0, 0, 0, 0, 0, 0, 0, 0, 0, 0, 0⟩, .nil, .nil, [], [], rfl, ⟨?_, InD.nil_ _ _, InR.nil_ _ _⟩, ?_, hB9⟩
    · constructor <;> first | (dsimp only; omega) | (intro x hx; simp at hx; omega)
    · simp [rightB, knownB, askN, FN.zero, nrB, smB, glS, drB, askDs] <;> omega
  · skip
    have tb0 : b.tmod 1000 = b % 1000 := Int.tmod_eq_emod_of_nonneg hbb.1
    obtain ⟨b0, hb0⟩ : ∃ x, b % 1000 = x := ⟨_, rfl⟩
    have bb0 : 0 ≤ b0 ∧ b0 < 1000 := by omega
    have x6 : wD.cell? ⟨w.heap.size, 6, none⟩ = some (.slice ro.A ro.n ro.c) := hX.cell 6
    have HKR := Lib.hid (kranges_any P ro.A ro.n ro.c xs b0 wD (HIN.out.u.kept (Kept.of_below hBx (fun _ => False)) (fun _ _ h => h)) HIN.out.lc HIN.out.cm bb0.1 bb0.2)
    go_wp2_with fail
    refine HKR.out.mono ?_
    rintro e w5 ⟨dr, rs, rfl, hri, hrr, hb5⟩
    have hF5 := hF.below hb5 hF.lt
    have hR5 := hR.below hb5 hR.lt
    have hB5 := hBx.trans (hb5.mono hBx.size)
    have hs5 := hb5.size
    have hFlt := hF.lt
    have c9 : w5.cell? ⟨gf, 9, none⟩ = some (.int .u64 0) := hF5.cell 9
    have f9 := hF5.frozen 9
    have c10 : w5.cell? ⟨gf, 10, none⟩ = some (.slice none 0 0) := hF5.cell 10
    have f10 := hF5.frozen 10
    have hFz := ((hF5.set 9 (.int .u64 a)).set 10 (.slice dr.A dr.n dr.c))
    have hkz : Kept (· = gf) w5 _ := (((Kept.refl _ _).setAt 9 (.int .u64 a)).setAt 10 (.slice dr.A dr.n dr.c))
    have hsz := hkz.size
    have hRz := hR5.kept hkz (by omega)
    have hBz := hkz.below hB5 (by omega) (fun j hj => by omega)
    go_wp2_with (first | ((with_reducible refine at_ld ?_); refine ld_fr _ _ (by rfl) hFz rfl ?_) | ((with_reducible refine at_st ?_); refine st_at _ _ (frL ⟨2, 0, 0, false, 0, 0, 0, 0, a, 0, 0, 0, 0, 0, 0, 0, 0⟩ .nil dr) (by rfl) (by rfl) hRz rfl rfl (by rfl) ?_; intro w9 hR9 hk9) | fail)
    refine bodyPost_ret (results_cell 2 54 (by rfl) _ 54 _ _ (by rfl) hR9 Tryz.underlying54 rfl fr_info) rfl ?_
    have hB9 := hk9.below hBz (by omega) (fun j hj => by omega)
    refine ⟨⟨2, 0, 0, false, 0, 0, 0, 0, a, 0, 0, 0, 0, 0, 0, 0, 0⟩, .nil, dr, [], rs, rfl, ⟨?_, InD.nil_ _ _, ⟨((hri.kept hkz (fun b hb e => by omega)).kept hk9 (fun b hb e => by omega)).rd.mono (fun b _ hb => hP b (by omega)), hri.lc, hri.cm, hri.nil⟩⟩, ?_, hB9⟩
    · constructor <;> first | (dsimp only; omega) | (intro x hx; simp at hx; omega)
    · simp [rightB, knownB, askN, FN.zero, nrB, smB, glS, drB, askDs, hrr] <;> omega
  · skip
    have tc5 : c.tmod 1099511627777 = c % 1099511627777 := Int.tmod_eq_emod_of_nonneg hcb.1
    obtain ⟨c5, hc5⟩ : ∃ x, c % 1099511627777 = x := ⟨_, rfl⟩
    have bc5 : 0 ≤ c5 ∧ c5 < 1099511627777 := by omega
    have c1 : wD.cell? ⟨gf, 1, none⟩ = some (.int .u64 0) := hF.cell 1
    have f1 := hF.frozen 1
    have c6 : wD.cell? ⟨gf, 6, none⟩ = some (.int .u64 0) := hF.cell 6
    have f6 := hF.frozen 6
    have c7 : wD.cell? ⟨gf, 7, none⟩ = some (.int .u64 0) := hF.cell 7
    have f7 := hF.frozen 7
    have hFz := (((hF.set 1 (.int .u64 a)).set 6 (.int .u64 b)).set 7 (.int .u64 c5))
    have hkz : Kept (· = gf) wD _ := ((((Kept.refl _ _).setAt 1 (.int .u64 a)).setAt 6 (.int .u64 b)).setAt 7 (.int .u64 c5))
    have hsz := hkz.size
    have hRz := hR.kept hkz (by omega)
    have hBz := hkz.below hBx (by omega) (fun j hj => by omega)
    go_wp2_with (first | ((with_reducible refine at_ld ?_); refine ld_fr _ _ (by rfl) hFz rfl ?_) | ((with_reducible refine at_st ?_); refine st_at _ _ (frL ⟨4, a, 0, false, 0, b, c5, 0, 0, 0, 0, 0, 0, 0, 0, 0, 0⟩ .nil .nil) (by rfl) (by rfl) hRz rfl rfl (by rfl) ?_; intro w9 hR9 hk9) | fail)
    refine bodyPost_ret (results_cell 2 54 (by rfl) _ 54 _ _ (by rfl) hR9 Tryz.underlying54 rfl fr_info) rfl ?_
    have hB9 := hk9.below hBz (by omega) (fun j hj => by omega)
    refine ⟨⟨4, a, 0, false, 0, b, c5, 0, 0, 0, 0, 0, 0, 0, 0, 0, 0⟩, .nil, .nil, [], [], rfl, ⟨?_, InD.nil_ _ _, InR.nil_ _ _⟩, ?_, hB9⟩
    · constructor <;> first | (dsimp only; omega) | (intro x hx; simp at hx; omega)
    · simp [rightB, knownB, askN, FN.zero, nrB, smB, glS, drB, askDs] <;> omega
  · skip
    have c1 : wD.cell? ⟨gf, 1, none⟩ = some (.int .u64 0) := hF.cell 1
    have f1 := hF.frozen 1
    have c6 : wD.cell? ⟨gf, 6, none⟩ = some (.int .u64 0) := hF.cell 6
    have f6 := hF.frozen 6
    have hFz := ((hF.set 1 (.int .u64 a)).set 6 (.int .u64 b))
    have hkz : Kept (· = gf) wD _ := (((Kept.refl _ _).setAt 1 (.int .u64 a)).setAt 6 (.int .u64 b))
    have hsz := hkz.size
    have hRz := hR.kept hkz (by omega)
    have hBz := hkz.below hBx (by omega) (fun j hj => by omega)
    go_wp2_with (first | ((with_reducible refine at_ld ?_); refine ld_fr _ _ (by rfl) hFz rfl ?_) | ((with_reducible refine at_st ?_); refine st_at _ _ (frL ⟨5, a, 0, false, 0, b, 0, 0, 0, 0, 0, 0, 0, 0, 0, 0, 0⟩ .nil .nil) (by rfl) (by rfl) hRz rfl rfl (by rfl) ?_; intro w9 hR9 hk9) | fail)
    refine bodyPost_ret (results_cell 2 54 (by rfl) _ 54 _ _ (by rfl) hR9 Tryz.underlying54 rfl fr_info) rfl ?_
    have hB9 := hk9.below hBz (by omega) (fun j hj => by omega)
    refine ⟨⟨5, a, 0, false, 0, b, 0, 0, 0, 0, 0, 0, 0, 0, 0, 0, 0⟩, .nil, .nil, [], [], rfl, ⟨?_, InD.nil_ _ _, InR.nil_ _ _⟩, ?_, hB9⟩
    · constructor <;> first | (dsimp only; omega) | (intro x hx; simp at hx; omega)
    · simp [rightB, knownB, askN, FN.zero, nrB, smB, glS, drB, askDs] <;> omega
  · skip
    have tb2 : b.tmod 1099511626776 = b % 1099511626776 := Int.tmod_eq_emod_of_nonneg hbb.1
    obtain ⟨b2, hb2⟩ : ∃ x, b % 1099511626776 = x := ⟨_, rfl⟩
    have bb2 : 0 ≤ b2 ∧ b2 < 1099511626776 := by omega
    have x4 : wD.cell? ⟨w.heap.size, 4, none⟩ = some (.slice d.A d.n d.c) := hX.cell 4
    go_wp2_with fail
    refine (cut_any d.A d.n d.c 40 wD hdl hdm (by decide) (fun h e => by have := hdn e; omega)).mono ?_
    rintro e w' ⟨rfl, rfl⟩
    have c2 : wD.cell? ⟨gf, 2, none⟩ = some (.int .u64 0) := hF.cell 2
    have f2 := hF.frozen 2
    have c3 : wD.cell? ⟨gf, 3, none⟩ = some (.slice none 0 0) := hF.cell 3
    have f3 := hF.frozen 3
    have hFz := ((hF.set 2 (.int .u64 b2)).set 3 (.slice d.A (min d.n 40) d.c))
    have hkz : Kept (· = gf) wD _ := (((Kept.refl _ _).setAt 2 (.int .u64 b2)).setAt 3 (.slice d.A (min d.n 40) d.c))
    have hsz := hkz.size
    have hRz := hR.kept hkz (by omega)
    have hBz := hkz.below hBx (by omega) (fun j hj => by omega)
    go_wp2_with (first | ((with_reducible refine at_ld ?_); refine ld_fr _ _ (by rfl) hFz rfl ?_) | ((with_reducible refine at_st ?_); refine st_at _ _ (frL ⟨6, 0, b2, false, 0, 0, 0, 0, 0, 0, 0, 0, 0, 0, 0, 0, 0⟩ (⟨d.A, min d.n 40, d.c⟩) .nil) (by rfl) (by rfl) hRz rfl rfl (by rfl) ?_; intro w9 hR9 hk9) | fail)
    refine bodyPost_ret (results_cell 2 54 (by rfl) _ 54 _ _ (by rfl) hR9 Tryz.underlying54 rfl fr_info) rfl ?_
    have hB9 := hk9.below hBz (by omega) (fun j hj => by omega)
    refine ⟨⟨6, 0, b2, false, 0, 0, 0, 0, 0, 0, 0, 0, 0, 0, 0, 0, 0⟩, (⟨d.A, min d.n 40, d.c⟩), .nil, ds.take 40, [], rfl, ⟨?_, (HIN.out.d.kept (Kept.of_below hB9 (fun _ => False)) (fun _ _ h => h)).cutD 40, InR.nil_ _ _⟩, ?_, hB9⟩
    · constructor <;> first | (dsimp only; omega) | (intro x hx; simp at hx; omega)
    · have hl : (ds.take 40).length ≤ 40 := by rw [List.length_take]; omega
      obtain ⟨D, hD⟩ : ∃ x, ds.take 40 = x := ⟨_, rfl⟩
      rw [hD] at hl ⊢
      simp [rightB, knownB, askN, FN.zero, nrB, smB, glS, drB, askDs] <;> omega
  · skip
    have tb2 : b.tmod 1099511626776 = b % 1099511626776 := Int.tmod_eq_emod_of_nonneg hbb.1
    obtain ⟨b2, hb2⟩ : ∃ x, b % 1099511626776 = x := ⟨_, rfl⟩
    have bb2 : 0 ≤ b2 ∧ b2 < 1099511626776 := by omega
    have hX := hX.drew
    have hR := hR.drew
    have hF := hF.drew
    have hBx : Below w.heap.size w wD.drew := belowN hBx 1
    have x4 : wD.drew.cell? ⟨w.heap.size, 4, none⟩ = some (.slice d.A d.n d.c) := hX.cell 4
    have x5 : wD.drew.cell? ⟨w.heap.size, 5, none⟩ = some (.bool fin) := hX.cell 5
    go_wp2_with fail
    refine wp_region_held_drew (S := fun w' => w'.cell? ⟨w.heap.size, 4, none⟩ = some (.slice d.A d.n d.c) ∧ w'.cell? ⟨w.heap.size, 5, none⟩ = some (.bool fin)) (by kernel_rfl) ⟨x4, x5⟩ (fun hHeld => ?_)
    obtain ⟨wE, hwE⟩ : ∃ x, wD.drew = x := ⟨_, rfl⟩
    rw [hwE] at hBx hX hR hF hHeld x4 x5 ⊢
    clear hwE
    refine tkp 0 (some 66) (v := ?_) rfl (Or.inl ⟨by rfl, ?_⟩) (by assumption) ?_
    rotate_left
    · intro w hSw; (try dsimp only at hSw); go_simp; first | done | (with_reducible rfl)
    simp only [Act.put, List.setIfInBounds_toArray, List.set_cons_zero, List.set_cons_succ]
    refine tkp 1 (some 67) (v := ?_) rfl (Or.inl ⟨by rfl, ?_⟩) (by assumption) ?_
    rotate_left
    · intro w hSw; (try dsimp only at hSw); go_simp; first | done | (with_reducible rfl)
    simp only [Act.put, List.setIfInBounds_toArray, List.set_cons_zero, List.set_cons_succ]
    refine tkp 2 (some 68) (v := ?_) rfl (Or.inl ⟨by rfl, ?_⟩) (by assumption) ?_
    rotate_left
    · intro w hSw; (try dsimp only at hSw); go_simp; first | done | (with_reducible rfl)
    simp only [Act.put, List.setIfInBounds_toArray, List.set_cons_zero, List.set_cons_succ]
    refine tkp 3 (some 69) (v := ?_) rfl (Or.inl ⟨by rfl, ?_⟩) (by assumption) ?_
    rotate_left
    · intro w hSw; (try dsimp only at hSw); go_simp; first | done | (with_reducible rfl)
    simp only [Act.put, List.setIfInBounds_toArray, List.set_cons_zero, List.set_cons_succ]
    refine tkp 4 (some 70) (v := ?_) rfl (Or.inl ⟨by rfl, ?_⟩) (by assumption) ?_
    rotate_left
    · intro w hSw; (try dsimp only at hSw); go_simp; first | done | (with_reducible rfl)
    simp only [Act.put, List.setIfInBounds_toArray, List.set_cons_zero, List.set_cons_succ]
    refine tkp 6 (some 72) (v := ?_) rfl (Or.inl ⟨by rfl, ?_⟩) (by assumption) ?_
    rotate_left
    · intro w hSw; (try dsimp only at hSw); go_simp; first | done | (with_reducible rfl)
    simp only [Act.put, List.setIfInBounds_toArray, List.set_cons_zero, List.set_cons_succ]
    refine tkp 7 (some 73) (v := ?_) rfl (Or.inl ⟨by rfl, ?_⟩) (by assumption) ?_
    rotate_left
    · intro w hSw; (try dsimp only at hSw); go_simp; first | done | (with_reducible rfl)
    simp only [Act.put, List.setIfInBounds_toArray, List.set_cons_zero, List.set_cons_succ]
    refine tkp 8 (some 74) (v := ?_) rfl (Or.inl ⟨by rfl, ?_⟩) (by assumption) ?_
    rotate_left
    · intro w hSw; (try dsimp only at hSw); go_simp; first | done | (with_reducible rfl)
    simp only [Act.put, List.setIfInBounds_toArray, List.set_cons_zero, List.set_cons_succ]
    refine wpAnyH_ready (rs := [5]) (by kernel_rfl) (by simp) ?_
    refine AllReadyH.cons rfl (fun K hK => ?_) AllReadyH.nil
    go_simp
    go_wp2_with ((go_at_call 24; refine (cut_any d.A d.n d.c 40 _ hdl hdm (by decide) (fun h e => by have := hdn e; omega)).mono ?_; rintro e w' ⟨rfl, rfl⟩))
    refine hK.out _ _ ⟨x4, x5⟩ (fun hHeld => ?_)
    clear hK K
    have c1 : World.cell? _ ⟨gf, 1, none⟩ = some (.int .u64 0) := hF.cell 1
    have f1 := hF.frozen 1
    refine wpAnyH_ready (rs := [9]) (by kernel_rfl) (by simp) ?_
    refine AllReadyH.cons rfl (fun K hK => ?_) AllReadyH.nil
    go_simp
    have hX0 := hX.kept (S := (· = gf)) ((Kept.refl _ _).setAt 1 (.int .u64 a)) (by omega)
    refine hK.out _ _ ⟨hX0.cell 4, hX0.cell 5⟩ (fun hHeld => ?_)
    clear hK K c1 f1 hX0
    refine tkp 10 (some 75) (v := ?_) rfl (Or.inl ⟨by rfl, ?_⟩) (by assumption) ?_
    rotate_left
    · intro w hSw; (try dsimp only at hSw); go_simp; first | done | (with_reducible rfl)
    simp only [Act.put, List.setIfInBounds_toArray, List.set_cons_zero, List.set_cons_succ]
    have c2 : World.cell? _ ⟨gf, 2, none⟩ = some (.int .u64 0) := (hF.set 1 (.int .u64 a)).cell 2
    have f2 := (hF.set 1 (.int .u64 a)).frozen 2
    refine wpAnyH_ready (rs := [11]) (by kernel_rfl) (by simp) ?_
    refine AllReadyH.cons rfl (fun K hK => ?_) AllReadyH.nil
    go_simp
    have hX1 := hX.kept (S := (· = gf)) (((Kept.refl _ _).setAt 1 (.int .u64 a)).setAt 2 (.int .u64 b2)) (by omega)
    refine hK.out _ _ ⟨hX1.cell 4, hX1.cell 5⟩ (fun hHeld => ?_)
    clear hK K c2 f2 hX1
    refine tkp 12 (some 76) (v := ?_) rfl (Or.inl ⟨by rfl, ?_⟩) (by assumption) ?_
    rotate_left
    · intro w hSw; (try dsimp only at hSw); go_simp; first | done | (with_reducible rfl)
    simp only [Act.put, List.setIfInBounds_toArray, List.set_cons_zero, List.set_cons_succ]
    have c3 : World.cell? _ ⟨gf, 3, none⟩ = some (.slice none 0 0) := ((hF.set 1 (.int .u64 a)).set 2 (.int .u64 b2)).cell 3
    have f3 := ((hF.set 1 (.int .u64 a)).set 2 (.int .u64 b2)).frozen 3
    refine wpAnyH_ready (rs := [13]) (by kernel_rfl) (by simp) ?_
    refine AllReadyH.cons rfl (fun K hK => ?_) AllReadyH.nil
    go_simp
    have hX2 := hX.kept (S := (· = gf)) ((((Kept.refl _ _).setAt 1 (.int .u64 a)).setAt 2 (.int .u64 b2)).setAt 3 (.slice d.A (min d.n 40) d.c)) (by omega)
    refine hK.out _ _ ⟨hX2.cell 4, hX2.cell 5⟩ (fun hHeld => ?_)
    clear hK K c3 f3 hX2
    refine tkp 14 (some 77) (v := ?_) rfl (Or.inl ⟨by rfl, ?_⟩) (by assumption) ?_
    rotate_left
    · intro w hSw; (try dsimp only at hSw); go_simp; first | done | (with_reducible rfl)
    simp only [Act.put, List.setIfInBounds_toArray, List.set_cons_zero, List.set_cons_succ]
    have c4 : World.cell? _ ⟨gf, 4, none⟩ = some (.bool false) := (((hF.set 1 (.int .u64 a)).set 2 (.int .u64 b2)).set 3 (.slice d.A (min d.n 40) d.c)).cell 4
    have f4 := (((hF.set 1 (.int .u64 a)).set 2 (.int .u64 b2)).set 3 (.slice d.A (min d.n 40) d.c)).frozen 4
    refine wpAnyH_ready (rs := [15]) (by kernel_rfl) (by simp) ?_
    refine AllReadyH.cons rfl (fun K hK => ?_) AllReadyH.nil
    go_simp
    have hX3 := hX.kept (S := (· = gf)) (((((Kept.refl _ _).setAt 1 (.int .u64 a)).setAt 2 (.int .u64 b2)).setAt 3 (.slice d.A (min d.n 40) d.c)).setAt 4 (.bool fin)) (by omega)
    refine hK.out _ _ ⟨hX3.cell 4, hX3.cell 5⟩ (fun hHeld => ?_)
    clear hK K c4 f4 hX3
    refine wpAnyH_done (by kernel_rfl) ?_ _
    clear hHeld x4 x5
    have hFz := ((((hF.set 1 (.int .u64 a)).set 2 (.int .u64 b2)).set 3 (.slice d.A (min d.n 40) d.c)).set 4 (.bool fin))
    have hkz : Kept (· = gf) wE _ := (((((Kept.refl _ _).setAt 1 (.int .u64 a)).setAt 2 (.int .u64 b2)).setAt 3 (.slice d.A (min d.n 40) d.c)).setAt 4 (.bool fin))
    have hsz := hkz.size
    have hgr' := hR.lt
    have hRz := hR.kept hkz (by omega)
    have hBz := hkz.below hBx (by omega) (fun j hj => by omega)
    go_wp2_with (first | ((with_reducible refine at_ld ?_); refine ld_fr _ _ (by rfl) hFz rfl ?_) | ((with_reducible refine at_st ?_); refine st_at _ _ (frL ⟨8, a, b2, fin, 0, 0, 0, 0, 0, 0, 0, 0, 0, 0, 0, 0, 0⟩ (⟨d.A, min d.n 40, d.c⟩) .nil) (by rfl) (by rfl) hRz rfl rfl (by rfl) ?_; intro w9 hR9 hk9) | fail)
    refine bodyPost_ret (results_cell 2 54 (by rfl) _ 54 _ _ (by rfl) hR9 Tryz.underlying54 rfl fr_info) rfl ?_
    have hB9 := hk9.below hBz (by omega) (fun j hj => by omega)
    refine ⟨⟨8, a, b2, fin, 0, 0, 0, 0, 0, 0, 0, 0, 0, 0, 0, 0, 0⟩, (⟨d.A, min d.n 40, d.c⟩), .nil, ds.take 40, [], rfl, ⟨?_, (HIN.out.d.kept (Kept.of_below hB9 (fun _ => False)) (fun _ _ h => h)).cutD 40, InR.nil_ _ _⟩, ?_, hB9⟩
    · constructor <;> first | (dsimp only; omega) | (intro x hx; simp at hx; omega)
    · have hl : (ds.take 40).length ≤ 40 := by rw [List.length_take]; omega
      obtain ⟨D, hD⟩ : ∃ x, ds.take 40 = x := ⟨_, rfl⟩
      rw [hD] at hl ⊢
      simp [rightB, knownB, askN, FN.zero, nrB, smB, glS, drB, askDs] <;> omega
  · skip
    have ta5 : a.tmod 1099511627777 = a % 1099511627777 := Int.tmod_eq_emod_of_nonneg hab.1
    obtain ⟨a5, ha5⟩ : ∃ x, a % 1099511627777 = x := ⟨_, rfl⟩
    have ba5 : 0 ≤ a5 ∧ a5 < 1099511627777 := by omega
    have c5 : wD.cell? ⟨gf, 5, none⟩ = some (.int .u64 0) := hF.cell 5
    have f5 := hF.frozen 5
    have hFz := (hF.set 5 (.int .u64 a5))
    have hkz : Kept (· = gf) wD _ := ((Kept.refl _ _).setAt 5 (.int .u64 a5))
    have hsz := hkz.size
    have hRz := hR.kept hkz (by omega)
    have hBz := hkz.below hBx (by omega) (fun j hj => by omega)
    go_wp2_with (first | ((with_reducible refine at_ld ?_); refine ld_fr _ _ (by rfl) hFz rfl ?_) | ((with_reducible refine at_st ?_); refine st_at _ _ (frL ⟨16, 0, 0, false, a5, 0, 0, 0, 0, 0, 0, 0, 0, 0, 0, 0, 0⟩ .nil .nil) (by rfl) (by rfl) hRz rfl rfl (by rfl) ?_; intro w9 hR9 hk9) | fail)
    refine bodyPost_ret (results_cell 2 54 (by rfl) _ 54 _ _ (by rfl) hR9 Tryz.underlying54 rfl fr_info) rfl ?_
    have hB9 := hk9.below hBz (by omega) (fun j hj => by omega)
    refine ⟨⟨16, 0, 0, false, a5, 0, 0, 0, 0, 0, 0, 0, 0, 0, 0, 0, 0⟩, .nil, .nil, [], [], rfl, ⟨?_, InD.nil_ _ _, InR.nil_ _ _⟩, ?_, hB9⟩
    · constructor <;> first | (dsimp only; omega) | (intro x hx; simp at hx; omega)
    · simp [rightB, knownB, askN, FN.zero, nrB, smB, glS, drB, askDs] <;> omega
  · skip
    have tb5 : b.tmod 1099511627777 = b % 1099511627777 := Int.tmod_eq_emod_of_nonneg hbb.1
    obtain ⟨b5, hb5⟩ : ∃ x, b % 1099511627777 = x := ⟨_, rfl⟩
    have bb5 : 0 ≤ b5 ∧ b5 < 1099511627777 := by omega
    have c1 : wD.cell? ⟨gf, 1, none⟩ = some (.int .u64 0) := hF.cell 1
    have f1 := hF.frozen 1
    have c5 : wD.cell? ⟨gf, 5, none⟩ = some (.int .u64 0) := hF.cell 5
    have f5 := hF.frozen 5
    have hFz := ((hF.set 1 (.int .u64 a)).set 5 (.int .u64 b5))
    have hkz : Kept (· = gf) wD _ := (((Kept.refl _ _).setAt 1 (.int .u64 a)).setAt 5 (.int .u64 b5))
    have hsz := hkz.size
    have hRz := hR.kept hkz (by omega)
    have hBz := hkz.below hBx (by omega) (fun j hj => by omega)
    go_wp2_with (first | ((with_reducible refine at_ld ?_); refine ld_fr _ _ (by rfl) hFz rfl ?_) | ((with_reducible refine at_st ?_); refine st_at _ _ (frL ⟨17, a, 0, false, b5, 0, 0, 0, 0, 0, 0, 0, 0, 0, 0, 0, 0⟩ .nil .nil) (by rfl) (by rfl) hRz rfl rfl (by rfl) ?_; intro w9 hR9 hk9) | fail)
    refine bodyPost_ret (results_cell 2 54 (by rfl) _ 54 _ _ (by rfl) hR9 Tryz.underlying54 rfl fr_info) rfl ?_
    have hB9 := hk9.below hBz (by omega) (fun j hj => by omega)
    refine ⟨⟨17, a, 0, false, b5, 0, 0, 0, 0, 0, 0, 0, 0, 0, 0, 0, 0⟩, .nil, .nil, [], [], rfl, ⟨?_, InD.nil_ _ _, InR.nil_ _ _⟩, ?_, hB9⟩
    · constructor <;> first | (dsimp only; omega) | (intro x hx; simp at hx; omega)
    · simp [rightB, knownB, askN, FN.zero, nrB, smB, glS, drB, askDs] <;> omega
  · skip
    have ta5 : a.tmod 1048577 = a % 1048577 := Int.tmod_eq_emod_of_nonneg hab.1
    obtain ⟨a5, ha5⟩ : ∃ x, a % 1048577 = x := ⟨_, rfl⟩
    have ba5 : 0 ≤ a5 ∧ a5 < 1048577 := by omega
    have c5 : wD.cell? ⟨gf, 5, none⟩ = some (.int .u64 0) := hF.cell 5
    have f5 := hF.frozen 5
    have hFz := (hF.set 5 (.int .u64 a5))
    have hkz : Kept (· = gf) wD _ := ((Kept.refl _ _).setAt 5 (.int .u64 a5))
    have hsz := hkz.size
    have hRz := hR.kept hkz (by omega)
    have hBz := hkz.below hBx (by omega) (fun j hj => by omega)
    go_wp2_with (first | ((with_reducible refine at_ld ?_); refine ld_fr _ _ (by rfl) hFz rfl ?_) | ((with_reducible refine at_st ?_); refine st_at _ _ (frL ⟨18, 0, 0, false, a5, 0, 0, 0, 0, 0, 0, 0, 0, 0, 0, 0, 0⟩ .nil .nil) (by rfl) (by rfl) hRz rfl rfl (by rfl) ?_; intro w9 hR9 hk9) | fail)
    refine bodyPost_ret (results_cell 2 54 (by rfl) _ 54 _ _ (by rfl) hR9 Tryz.underlying54 rfl fr_info) rfl ?_
    have hB9 := hk9.below hBz (by omega) (fun j hj => by omega)
    refine ⟨⟨18, 0, 0, false, a5, 0, 0, 0, 0, 0, 0, 0, 0, 0, 0, 0, 0⟩, .nil, .nil, [], [], rfl, ⟨?_, InD.nil_ _ _, InR.nil_ _ _⟩, ?_, hB9⟩
    · constructor <;> first | (dsimp only; omega) | (intro x hx; simp at hx; omega)
    · simp [rightB, knownB, askN, FN.zero, nrB, smB, glS, drB, askDs] <;> omega
  · skip
    have c5 : wD.cell? ⟨gf, 5, none⟩ = some (.int .u64 0) := hF.cell 5
    have f5 := hF.frozen 5
    have hFz := (hF.set 5 (.int .u64 a))
    have hkz : Kept (· = gf) wD _ := ((Kept.refl _ _).setAt 5 (.int .u64 a))
    have hsz := hkz.size
    have hRz := hR.kept hkz (by omega)
    have hBz := hkz.below hBx (by omega) (fun j hj => by omega)
    go_wp2_with (first | ((with_reducible refine at_ld ?_); refine ld_fr _ _ (by rfl) hFz rfl ?_) | ((with_reducible refine at_st ?_); refine st_at _ _ (frL ⟨20, 0, 0, false, a, 0, 0, 0, 0, 0, 0, 0, 0, 0, 0, 0, 0⟩ .nil .nil) (by rfl) (by rfl) hRz rfl rfl (by rfl) ?_; intro w9 hR9 hk9) | fail)
    refine bodyPost_ret (results_cell 2 54 (by rfl) _ 54 _ _ (by rfl) hR9 Tryz.underlying54 rfl fr_info) rfl ?_
    have hB9 := hk9.below hBz (by omega) (fun j hj => by omega)
    refine ⟨⟨20, 0, 0, false, a, 0, 0, 0, 0, 0, 0, 0, 0, 0, 0, 0, 0⟩, .nil, .nil, [], [], rfl, ⟨?_, InD.nil_ _ _, InR.nil_ _ _⟩, ?_, hB9⟩
    · constructor <;> first | (dsimp only; omega) | (intro x hx; simp at hx; omega)
    · simp [rightB, knownB, askN, FN.zero, nrB, smB, glS, drB, askDs] <;> omega
  · skip
    rcases (by omega : a ≤ b ∨ b < a) with hmn | hmn
    · skip
      have x7 : wD.cell? ⟨w.heap.size, 7, none⟩ = some (.int .i64 N) := hX.cell 7
      have htn := cidX_b N
      go_wp2_with fail
      refine (cidk_any N _ HIN.out.n.1 HIN.out.n.2 (withinS_bd N 0 1048576 (by decide))).mono ?_
      rintro e w5 ⟨rfl, hb5⟩
      have hF5 := hF.below hb5 hF.lt
      have hR5 := hR.below hb5 hR.lt
      have hB5 := hBx.trans (hb5.mono hBx.size)
      obtain ⟨tn, htn'⟩ : ∃ x, cidX N = x := ⟨_, rfl⟩
      (try rw [htn'] at htn ⊢)
      have hs5 := hb5.size
      have c8 : w5.cell? ⟨gf, 8, none⟩ = some (.int .u64 0) := hF5.cell 8
      have f8 := hF5.frozen 8
      have c5 : w5.cell? ⟨gf, 5, none⟩ = some (.int .u64 0) := hF5.cell 5
      have f5 := hF5.frozen 5
      have hFy := ((hF5.set 8 (.int .u64 a)).set 5 (.int .u64 a))
      have hkz : Kept (· = gf) w5 _ := (((Kept.refl _ _).setAt 8 (.int .u64 a)).setAt 5 (.int .u64 a))
      have hsz := hkz.size
      have hRy := hR5.kept hkz (by omega)
      have hBy := hkz.below hB5 (by omega) (fun j hj => by omega)
      go_wp2_with (first | ((with_reducible refine at_stcid ?_); refine wpList_store_in (ty := 52) gf 11 _ _ (frL ⟨24, 0, 0, false, a, 0, 0, a, 0, 1, tn, 7, 0, 0, 0, 0, 0⟩ .nil .nil) [.int .u8 1, .int .u8 tn, .int .u8 7, .int .u8 0, .int .u8 0, .int .u8 0, .int .u8 0, .int .u8 0] (by rfl) (by rfl) hFy (by show 19 ≤ 19; decide) cid_info (by rfl) (by rfl) ?_; intro w7 hFz hk7; have hRz := hRy.kept hk7 (by omega); have hBz := hk7.below hBy (by omega) (fun j hj => by omega); have hs7 := hk7.size) | ((with_reducible refine at_ld ?_); refine ld_fr _ _ (by rfl) hFz rfl ?_) | ((with_reducible refine at_st ?_); refine st_at _ _ (frL ⟨24, 0, 0, false, a, 0, 0, a, 0, 1, tn, 7, 0, 0, 0, 0, 0⟩ .nil .nil) (by rfl) (by rfl) hRz rfl rfl (by rfl) ?_; intro w9 hR9 hk9) | fail)
      refine bodyPost_ret (results_cell 2 54 (by rfl) _ 54 _ _ (by rfl) hR9 Tryz.underlying54 rfl fr_info) rfl ?_
      have hB9 := hk9.below hBz (by omega) (fun j hj => by omega)
      refine ⟨⟨24, 0, 0, false, a, 0, 0, a, 0, 1, tn, 7, 0, 0, 0, 0, 0⟩, .nil, .nil, [], [], rfl, ⟨?_, InD.nil_ _ _, InR.nil_ _ _⟩, ?_, hB9⟩
      · constructor <;> first | (dsimp only; omega) | (intro x hx; simp at hx; omega)
      · simp [rightB, knownB, askN, FN.zero, nrB, smB, glS, drB, askDs] <;> omega
    · skip
      have x7 : wD.cell? ⟨w.heap.size, 7, none⟩ = some (.int .i64 N) := hX.cell 7
      have htn := cidX_b N
      go_wp2_with fail
      refine (cidk_any N _ HIN.out.n.1 HIN.out.n.2 (withinS_bd N 0 1048576 (by decide))).mono ?_
      rintro e w5 ⟨rfl, hb5⟩
      have hF5 := hF.below hb5 hF.lt
      have hR5 := hR.below hb5 hR.lt
      have hB5 := hBx.trans (hb5.mono hBx.size)
      obtain ⟨tn, htn'⟩ : ∃ x, cidX N = x := ⟨_, rfl⟩
      (try rw [htn'] at htn ⊢)
      have hs5 := hb5.size
      have c8 : w5.cell? ⟨gf, 8, none⟩ = some (.int .u64 0) := hF5.cell 8
      have f8 := hF5.frozen 8
      have c5 : w5.cell? ⟨gf, 5, none⟩ = some (.int .u64 0) := hF5.cell 5
      have f5 := hF5.frozen 5
      have hFy := ((hF5.set 8 (.int .u64 a)).set 5 (.int .u64 b))
      have hkz : Kept (· = gf) w5 _ := (((Kept.refl _ _).setAt 8 (.int .u64 a)).setAt 5 (.int .u64 b))
      have hsz := hkz.size
      have hRy := hR5.kept hkz (by omega)
      have hBy := hkz.below hB5 (by omega) (fun j hj => by omega)
      go_wp2_with (first | ((with_reducible refine at_stcid ?_); refine wpList_store_in (ty := 52) gf 11 _ _ (frL ⟨24, 0, 0, false, b, 0, 0, a, 0, 1, tn, 7, 0, 0, 0, 0, 0⟩ .nil .nil) [.int .u8 1, .int .u8 tn, .int .u8 7, .int .u8 0, .int .u8 0, .int .u8 0, .int .u8 0, .int .u8 0] (by rfl) (by rfl) hFy (by show 19 ≤ 19; decide) cid_info (by rfl) (by rfl) ?_; intro w7 hFz hk7; have hRz := hRy.kept hk7 (by omega); have hBz := hk7.below hBy (by omega) (fun j hj => by omega); have hs7 := hk7.size) | ((with_reducible refine at_ld ?_); refine ld_fr _ _ (by rfl) hFz rfl ?_) | ((with_reducible refine at_st ?_); refine st_at _ _ (frL ⟨24, 0, 0, false, b, 0, 0, a, 0, 1, tn, 7, 0, 0, 0, 0, 0⟩ .nil .nil) (by rfl) (by rfl) hRz rfl rfl (by rfl) ?_; intro w9 hR9 hk9) | fail)
      refine bodyPost_ret (results_cell 2 54 (by rfl) _ 54 _ _ (by rfl) hR9 Tryz.underlying54 rfl fr_info) rfl ?_
      have hB9 := hk9.below hBz (by omega) (fun j hj => by omega)
      refine ⟨⟨24, 0, 0, false, b, 0, 0, a, 0, 1, tn, 7, 0, 0, 0, 0, 0⟩, .nil, .nil, [], [], rfl, ⟨?_, InD.nil_ _ _, InR.nil_ _ _⟩, ?_, hB9⟩
      · constructor <;> first | (dsimp only; omega) | (intro x hx; simp at hx; omega)
      · simp [rightB, knownB, askN, FN.zero, nrB, smB, glS, drB, askDs] <;> omega
  · skip
    have c8 : wD.cell? ⟨gf, 8, none⟩ = some (.int .u64 0) := hF.cell 8
    have f8 := hF.frozen 8
    have hFz := (hF.set 8 (.int .u64 a))
    have hkz : Kept (· = gf) wD _ := ((Kept.refl _ _).setAt 8 (.int .u64 a))
    have hsz := hkz.size
    have hRz := hR.kept hkz (by omega)
    have hBz := hkz.below hBx (by omega) (fun j hj => by omega)
    go_wp2_with (first | ((with_reducible refine at_ld ?_); refine ld_fr _ _ (by rfl) hFz rfl ?_) | ((with_reducible refine at_st ?_); refine st_at _ _ (frL ⟨25, 0, 0, false, 0, 0, 0, a, 0, 0, 0, 0, 0, 0, 0, 0, 0⟩ .nil .nil) (by rfl) (by rfl) hRz rfl rfl (by rfl) ?_; intro w9 hR9 hk9) | fail)
    refine bodyPost_ret (results_cell 2 54 (by rfl) _ 54 _ _ (by rfl) hR9 Tryz.underlying54 rfl fr_info) rfl ?_
    have hB9 := hk9.below hBz (by omega) (fun j hj => by omega)
    refine ⟨⟨25, 0, 0, false, 0, 0, 0, a, 0, 0, 0, 0, 0, 0, 0, 0, 0⟩, .nil, .nil, [], [], rfl, ⟨?_, InD.nil_ _ _, InR.nil_ _ _⟩, ?_, hB9⟩
    · constructor <;> first | (dsimp only; omega) | (intro x hx; simp at hx; omega)
    · simp [rightB, knownB, askN, FN.zero, nrB, smB, glS, drB, askDs] <;> omega
  · skip
    have x7 : wD.cell? ⟨w.heap.size, 7, none⟩ = some (.int .i64 N) := hX.cell 7
    have htn := cidX_b N
    go_wp2_with fail
    refine (cidk_any N _ HIN.out.n.1 HIN.out.n.2 (withinS_bd N 0 1048576 (by decide))).mono ?_
    rintro e w5 ⟨rfl, hb5⟩
    have hF5 := hF.below hb5 hF.lt
    have hR5 := hR.below hb5 hR.lt
    have hB5 := hBx.trans (hb5.mono hBx.size)
    obtain ⟨tn, htn'⟩ : ∃ x, cidX N = x := ⟨_, rfl⟩
    (try rw [htn'] at htn ⊢)
    have hs5 := hb5.size
    have hFy := hF5
    have hRy := hR5
    have hBy := hB5
    go_wp2_with (first | ((with_reducible refine at_stcid ?_); refine wpList_store_in (ty := 52) gf 11 _ _ (frL ⟨26, 0, 0, false, 0, 0, 0, 0, 0, 1, tn, 7, 0, 0, 0, 0, 0⟩ .nil .nil) [.int .u8 1, .int .u8 tn, .int .u8 7, .int .u8 0, .int .u8 0, .int .u8 0, .int .u8 0, .int .u8 0] (by rfl) (by rfl) hFy (by show 19 ≤ 19; decide) cid_info (by rfl) (by rfl) ?_; intro w7 hFz hk7; have hRz := hRy.kept hk7 (by omega); have hBz := hk7.below hBy (by omega) (fun j hj => by omega); have hs7 := hk7.size) | ((with_reducible refine at_ld ?_); refine ld_fr _ _ (by rfl) hFz rfl ?_) | ((with_reducible refine at_st ?_); refine st_at _ _ (frL ⟨26, 0, 0, false, 0, 0, 0, 0, 0, 1, tn, 7, 0, 0, 0, 0, 0⟩ .nil .nil) (by rfl) (by rfl) hRz rfl rfl (by rfl) ?_; intro w9 hR9 hk9) | fail)
    refine bodyPost_ret (results_cell 2 54 (by rfl) _ 54 _ _ (by rfl) hR9 Tryz.underlying54 rfl fr_info) rfl ?_
    have hB9 := hk9.below hBz (by omega) (fun j hj => by omega)
    refine ⟨⟨26, 0, 0, false, 0, 0, 0, 0, 0, 1, tn, 7, 0, 0, 0, 0, 0⟩, .nil, .nil, [], [], rfl, ⟨?_, InD.nil_ _ _, InR.nil_ _ _⟩, ?_, hB9⟩
    · constructor <;> first | (dsimp only; omega) | (intro x hx; simp at hx; omega)
    · simp [rightB, knownB, askN, FN.zero, nrB, smB, glS, drB, askDs] <;> omega
  · skip
    have x7 : wD.cell? ⟨w.heap.size, 7, none⟩ = some (.int .i64 N) := hX.cell 7
    have htn := cidX_b N
    go_wp2_with fail
    refine (cidk_any N _ HIN.out.n.1 HIN.out.n.2 (withinS_bd N 0 1048576 (by decide))).mono ?_
    rintro e w5 ⟨rfl, hb5⟩
    have hF5 := hF.below hb5 hF.lt
    have hR5 := hR.below hb5 hR.lt
    have hB5 := hBx.trans (hb5.mono hBx.size)
    obtain ⟨tn, htn'⟩ : ∃ x, cidX N = x := ⟨_, rfl⟩
    (try rw [htn'] at htn ⊢)
    have hs5 := hb5.size
    have hFy := hF5
    have hRy := hR5
    have hBy := hB5
    go_wp2_with (first | ((with_reducible refine at_stcid ?_); refine wpList_store_in (ty := 52) gf 11 _ _ (frL ⟨27, 0, 0, false, 0, 0, 0, 0, 0, 1, tn, 7, 0, 0, 0, 0, 0⟩ .nil .nil) [.int .u8 1, .int .u8 tn, .int .u8 7, .int .u8 0, .int .u8 0, .int .u8 0, .int .u8 0, .int .u8 0] (by rfl) (by rfl) hFy (by show 19 ≤ 19; decide) cid_info (by rfl) (by rfl) ?_; intro w7 hFz hk7; have hRz := hRy.kept hk7 (by omega); have hBz := hk7.below hBy (by omega) (fun j hj => by omega); have hs7 := hk7.size) | ((with_reducible refine at_ld ?_); refine ld_fr _ _ (by rfl) hFz rfl ?_) | ((with_reducible refine at_st ?_); refine st_at _ _ (frL ⟨27, 0, 0, false, 0, 0, 0, 0, 0, 1, tn, 7, 0, 0, 0, 0, 0⟩ .nil .nil) (by rfl) (by rfl) hRz rfl rfl (by rfl) ?_; intro w9 hR9 hk9) | fail)
    refine bodyPost_ret (results_cell 2 54 (by rfl) _ 54 _ _ (by rfl) hR9 Tryz.underlying54 rfl fr_info) rfl ?_
    have hB9 := hk9.below hBz (by omega) (fun j hj => by omega)
    refine ⟨⟨27, 0, 0, false, 0, 0, 0, 0, 0, 1, tn, 7, 0, 0, 0, 0, 0⟩, .nil, .nil, [], [], rfl, ⟨?_, InD.nil_ _ _, InR.nil_ _ _⟩, ?_, hB9⟩
    · constructor <;> first | (dsimp only; omega) | (intro x hx; simp at hx; omega)
    · simp [rightB, knownB, askN, FN.zero, nrB, smB, glS, drB, askDs] <;> omega
  · skip
    have x4 : wD.cell? ⟨w.heap.size, 4, none⟩ = some (.slice d.A d.n d.c) := hX.cell 4
    go_wp2_with fail
    refine (cut_any d.A d.n d.c 32 wD hdl hdm (by decide) (fun h e => by have := hdn e; omega)).mono ?_
    rintro e w' ⟨rfl, rfl⟩
    have c6 : wD.cell? ⟨gf, 6, none⟩ = some (.int .u64 0) := hF.cell 6
    have f6 := hF.frozen 6
    have c3 : wD.cell? ⟨gf, 3, none⟩ = some (.slice none 0 0) := hF.cell 3
    have f3 := hF.frozen 3
    have hFz := ((hF.set 6 (.int .u64 a)).set 3 (.slice d.A (min d.n 32) d.c))
    have hkz : Kept (· = gf) wD _ := (((Kept.refl _ _).setAt 6 (.int .u64 a)).setAt 3 (.slice d.A (min d.n 32) d.c))
    have hsz := hkz.size
    have hRz := hR.kept hkz (by omega)
    have hBz := hkz.below hBx (by omega) (fun j hj => by omega)
    go_wp2_with (first | ((with_reducible refine at_ld ?_); refine ld_fr _ _ (by rfl) hFz rfl ?_) | ((with_reducible refine at_st ?_); refine st_at _ _ (frL ⟨28, 0, 0, false, 0, a, 0, 0, 0, 0, 0, 0, 0, 0, 0, 0, 0⟩ (⟨d.A, min d.n 32, d.c⟩) .nil) (by rfl) (by rfl) hRz rfl rfl (by rfl) ?_; intro w9 hR9 hk9) | fail)
    refine bodyPost_ret (results_cell 2 54 (by rfl) _ 54 _ _ (by rfl) hR9 Tryz.underlying54 rfl fr_info) rfl ?_
    have hB9 := hk9.below hBz (by omega) (fun j hj => by omega)
    refine ⟨⟨28, 0, 0, false, 0, a, 0, 0, 0, 0, 0, 0, 0, 0, 0, 0, 0⟩, (⟨d.A, min d.n 32, d.c⟩), .nil, ds.take 32, [], rfl, ⟨?_, (HIN.out.d.kept (Kept.of_below hB9 (fun _ => False)) (fun _ _ h => h)).cutD 32, InR.nil_ _ _⟩, ?_, hB9⟩
    · constructor <;> first | (dsimp only; omega) | (intro x hx; simp at hx; omega)
    · have hl : (ds.take 32).length ≤ 32 := by rw [List.length_take]; omega
      obtain ⟨D, hD⟩ : ∃ x, ds.take 32 = x := ⟨_, rfl⟩
      rw [hD] at hl ⊢
      simp [rightB, knownB, askN, FN.zero, nrB, smB, glS, drB, askDs] <;> omega
  · skip
    have hFz := hF
    have hRz := hR
    have hBz := hBx
    go_wp2_with (first | ((with_reducible refine at_ld ?_); refine ld_fr _ _ (by rfl) hFz rfl ?_) | ((with_reducible refine at_st ?_); refine st_at _ _ (frL ⟨30, 0, 0, false, 0, 0, 0, 0, 0, 0, 0, 0, 0, 0, 0, 0, 0⟩ .nil .nil) (by rfl) (by rfl) hRz rfl rfl (by rfl) ?_; intro w9 hR9 hk9) | fail)
    refine bodyPost_ret (results_cell 2 54 (by rfl) _ 54 _ _ (by rfl) hR9 Tryz.underlying54 rfl fr_info) rfl ?_
    have hB9 := hk9.below hBz (by omega) (fun j hj => by omega)
    refine ⟨⟨30, 0, 0, false, 0, 0, 0, 0, 0, 0, 0, 0, 0, 0, 0, 0, 0⟩, .nil, .nil, [], [], rfl, ⟨?_, InD.nil_ _ _, InR.nil_ _ _⟩, ?_, hB9⟩
    · constructor <;> first | (dsimp only; omega) | (intro x hx; simp at hx; omega)
    · simp [rightB, knownB, askN, FN.zero, nrB, smB, glS, drB, askDs] <;> omega
/-- A frame as it is drawn. -/
structure FX where
  K : Int
  A : Int
  B : Int
  C : Int
  d : Sl
  fin : Bool
  ro : Sl
  N : Int
  ds : List Int
  xs : List Int
def FX.l (x : FX) : List Value := fL x.K x.A x.B x.C x.d x.fin x.ro x.N
def FX.ok (w : World) (P : Nat → Prop) (x : FX) : Prop := FIn w P x.K x.A x.B x.C x.d x.ds x.ro x.xs x.N
theorem FIn.kept {S P : Nat → Prop} {w w' : World} {K A B C N : Int} {d ro : Sl} {ds xs : List Int} (h : FIn w P K A B C d ds ro xs N) (k : Kept S w w') (hs : ∀ b, P b → ¬ S b) : FIn w' P K A B C d ds ro xs N :=
  ⟨h.k, h.a, h.b, h.c, h.d.kept k hs, h.u.kept k hs, h.lc, h.cm, h.n⟩
theorem UsP.mono_ {P P' : Nat → Prop} {w : World} {n : Nat} {A : Option Addr} {xs : List Int} (h : UsP w P A n xs) (hp : ∀ b, b < w.heap.size → P b → P' b) : UsP w P' A n xs :=
  ⟨h.1, h.2.1, fun hn => by obtain ⟨b, off, e, hb, hP, hc⟩ := h.2.2 hn; exact ⟨b, off, e, hb, hp b hb hP, hc⟩⟩
theorem FIn.mono {P P' : Nat → Prop} {w : World} {K A B C N : Int} {d ro : Sl} {ds xs : List Int} (h : FIn w P K A B C d ds ro xs N) (hp : ∀ b, b < w.heap.size → P b → P' b) : FIn w P' K A B C d ds ro xs N :=
  ⟨h.k, h.a, h.b, h.c, h.d.mono hp, h.u.mono_ hp, h.lc, h.cm, h.n⟩
/-- The slice value with address A and n elements reads as the drawn frames X. -/
def FxP (w : World) (A : Option Addr) (n : Nat) (X : List FX) : Prop :=
  X.length = n ∧ (0 < n → ∃ b off, A = some ⟨b, off, none⟩ ∧ b < w.heap.size ∧ ∀ (i : Nat) (x : FX), X[i]? = some x → w.rangeAt b (off + i * 8) x.l) ∧ ∀ x ∈ X, x.ok w (fun _ => True)
theorem FxP.below {w w' : World} {A : Option Addr} {n : Nat} {X : List FX} (h : FxP w A n X) (k : Below w.heap.size w w') : FxP w' A n X := by
  refine ⟨h.1, fun hn => ?_, fun x hx => (h.2.2 x hx).kept (Kept.of_below k (fun _ => False)) (fun _ _ h => h)⟩
  obtain ⟨b, off, e, hb, hc⟩ := h.2.1 hn
  exact ⟨b, off, e, Nat.lt_of_lt_of_le hb k.size, fun i x hx => rangeAt_kept (hc i x hx) (Kept.of_below k (fun _ => False)) hb (fun h => h)⟩
theorem kframe_fx (P : Nat → Prop) (x : FX) (w : World) (hP : ∀ b, w.heap.size ≤ b → P b) (h : x.ok w P) : Calls Tryz.prog 21 #[.agg x.l.toArray] w (KFPost w P) := by
  have hwb := withinS_bd x.K 0 1048576 (by decide)
  obtain ⟨j, hj⟩ := Int.eq_ofNat_of_zero_le (show 0 ≤ withinS x.K 0 1048576 % 17 by omega)
  have hj17 : j < kindsL.length := by show j < 17; omega
  exact kframe_any P x.K x.A x.B x.C x.d x.fin x.ro x.N x.ds x.xs w hP h j hj _ (List.getElem?_eq_getElem hj17)
theorem fx_info : (Tryz.prog.info? 34).map (·.size) = some 8 := by kernel_rfl
section
variable {ops : Array Oper} {rest : List Oper} {a : Act} {w : World} {Q : Exit → Act → World → Prop} {dst : Option Tmp} {x y : Operand} {t : TypeId} {pos : String} {after : Array Edge} {g : Option (Nat × Bool)}
theorem at_ldf (h : wpList Tryz.prog ops Q (⟨dst, .load 34 x, t, pos, after, g⟩ :: rest) a w) : wpList Tryz.prog ops Q (⟨dst, .load 34 x, t, pos, after, g⟩ :: rest) a w := h
theorem ld_fx (b o : Nat) (l : List Value) (hg : Region.wanted ⟨dst, .load 34 x, t, pos, after, g⟩ (yielded ops a.tmps) = true) (hx : a.eval x = .pointer (some ⟨b, o, none⟩)) (hA : w.rangeAt b o l) (hl : l.length = 8)
    (h : wpList Tryz.prog ops Q rest (a.put dst (.agg l.toArray)) w) : wpList Tryz.prog ops Q (⟨dst, .load 34 x, t, pos, after, g⟩ :: rest) a w := by
  refine wpList_step fun K hK => ?_
  rw [if_pos hg]
  exact wp_load_mid _ _ rfl b o hx l _ hA Tryz.underlying34 rfl (by rw [hl]; exact fx_info) (hK _ _ h)
end
end Go.Proofs.YtphpdaldplkgmaaGreat
