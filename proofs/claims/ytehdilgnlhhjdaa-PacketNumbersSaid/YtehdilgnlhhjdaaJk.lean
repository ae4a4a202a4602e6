/-
  The document's own Reveal (narthexref9).
-/
import Derived.Test.YtehdilgnlhhjdaaJh
namespace Go.Proofs.Ytehdilgnlhhjdaa
set_option linter.unusedVariables false
set_option linter.unusedSimpArgs false
open Go.RowKit Go.ChangeShapes Go.WideShapes Go.Deep
section
variable {P : Program} {w : World} {fn : Func} {tmps : Array Value}
theorem results_cell_tmp4 (s t t' t2 t3 : Tmp) (ty : TypeId) (hr : fn.results = #[.cell s ty, .tmp t, .tmp t', .tmp t2, .tmp t3]) (p : Nat) (T : TypeId) (l : List Value) (d : TypeDesc) (v v' v2 v3 : Value) (hs : tmps.getD s undef = .pointer (some ⟨p, 0, none⟩)) (ht : tmps.getD t undef = v) (ht' : tmps.getD t' undef = v') (ht2 : tmps.getD t2 undef = v2) (ht3 : tmps.getD t3 undef = v3) (hA : At w p T l)
    (hu : P.underlying ty = some d) (hd : d.isRow = true) (hi : (P.info? ty).map (·.size) = some l.length) : (results fn tmps).run P w = .ok (.tuple #[.agg l.toArray, v, v', v2, v3]) w := by
  have h := run_loadVar_mid (P := P) w p 0 ty l d hA.rangeAt hu hd hi
  rw [Array.getD_eq_getD_getElem?] at hs ht ht' ht2 ht3
  simp [results, hr, hs, ht, ht', ht2, ht3, asAddr, h]
end
/-- What the document's Reveal answers. -/
def RRvPost (mk : Int) (bs : List Int) (w : World) (e : Ending) (w' : World) : Prop :=
  (match revS mk bs with
  | none => e = .returned (.tuple #[hdV HN.zero Sl.nil, .int .u32 0, .slice none 0 0, .int .i64 0, .bool false])
  | some r => ∃ d v, e = .returned (.tuple #[hdV r.m d, .int .u32 r.low, v, .int .i64 r.at_, .bool true]) ∧ InD w' (fun b => w.heap.size ≤ b) d r.tok ∧ r.m.wf ∧ Own w' w.heap.size 5 v r.x) ∧ Below w.heap.size w w'
/-- What stays while the mask is taken off. -/
structure RaS (gk gh : Nat) (K : List Value) (s : Int) (W : World) : Prop where
  k : At W gk 24 K
  s : W.cell? ⟨gh, 0, none⟩ = some (.int .i64 s)
theorem RaS.below {gk gh : Nat} {K : List Value} {s : Int} {W W' : World} (h : RaS gk gh K s W) (k : Below W.heap.size W W') : RaS gk gh K s W' := ⟨h.k.below k h.k.lt, cell_below h.s k⟩
/-- What stays while the head is told. -/
structure RbS (gh : Nat) (L : List Value) (wd : Int) (W : World) : Prop where
  h : At W gh 30 L
  w : W.cell? ⟨gh, 18, none⟩ = some (.int .i64 wd)
theorem RbS.kept {S : Nat → Prop} {gh : Nat} {L : List Value} {wd : Int} {W W' : World} (h : RbS gh L wd W) (k : Kept S W W') (h1 : ¬ S gh) : RbS gh L wd W' := ⟨h.h.kept k h1, by rw [k.cell (p := ⟨gh, 18, none⟩) h.h.lt h1]; exact h.w⟩
set_option maxRecDepth 100000 in
theorem b_and4 (x : Int) (h0 : 0 ≤ x) (h1 : x < 256) : bits BinOp.and IntKind.u8 x 4 = x / 4 % 2 * 4 := by
  have nat_and4 : ∀ n : Fin 256, (n.val &&& 4) = n.val / 4 % 2 * 4 := by decide
  obtain ⟨n, rfl⟩ := Int.eq_ofNat_of_zero_le h0
  rw [u8_and _ _ h0 h1 (by decide) (by decide)]
  have := nat_and4 ⟨n, by omega⟩
  simp only at this
  rw [show (Int.toNat (n : Int)) = n from rfl, show Int.toNat (4 : Int) = 4 from rfl, this]
  omega
theorem turnB_head (bs ms : List Int) (a k : Nat) (x : Int) (ha : 1 ≤ a) (h : 0 < bs.length) : (turnB bs ms a k x).getD 0 0 = xorB (bs.getD 0 0) (andB (ms.getD 0 0) x) := by
  unfold turnB
  rw [List.getD_eq_getElem?_getD, turnL_at _ _ _ _ _ (by rw [turnF_len]; exact h), if_neg (by omega)]
  show (turnF bs _).getD 0 0 = _
  rw [turnF_head _ _ h]
theorem samS_take (bs : List Int) (a b : Nat) (h : a + 12 ≤ b) : samS (bs.take b) a = samS bs a := by
  unfold samS
  rw [List.drop_take, List.take_take, Nat.min_eq_left (by omega)]
set_option maxRecDepth 100000 in
set_option maxHeartbeats 4000000 in
theorem rreveal_no (sk mk : Int) (A : Option Addr) (n c : Nat) (bs : List Int) (w : World) (hr : Rd w w.heap.size A n bs) (hn : n ≤ 1000000) (hnc : n ≤ c) (hcm : c ≤ maxLen) (hA : A = none → c = 0) (k0 : 0 ≤ mk) (k1 : mk < 18446744073709551616) (h : parseS bs = none) :
    Calls Try.prog 27 #[.agg (kL sk mk).toArray, .slice A n c] w (RRvPost mk bs w) := by
  have hc3 := hcm
  unfold maxLen at hc3
  have hrl := hr.1
  have hby := hr.2.1
  have hK0 : At (w.alloc (.cells (kL sk mk).toArray 24)) w.heap.size 24 (kL sk mk) := At.new w 24 _
  have hb0 : Below w.heap.size w (w.alloc (.cells (kL sk mk).toArray 24)) := (Below.refl _ _).alloc (Nat.le_refl _) _
  obtain ⟨K, hK⟩ : ∃ K, kL sk mk = K := ⟨_, rfl⟩
  have hKl : K.length = 2 := by rw [← hK]; rfl
  rw [hK] at hK0 hb0 ⊢
  obtain ⟨w1, hw1⟩ : ∃ x, w.alloc (.cells K.toArray 24) = x := ⟨_, rfl⟩
  rw [hw1] at hK0 hb0
  have hP0 : At (w1.alloc (.cells #[.int .i64 0, .int .u8 0, .int .u8 0, .int .u8 0, .int .u8 0, .int .u8 0, .int .u8 0, .int .u8 0, .int .u8 0, .int .u8 0, .int .u8 0, .int .u8 0, .int .u8 0, .int .u8 0, .int .u8 0, .int .u8 0, .int .u8 0, .slice none 0 0, .int .i64 0, .bool false] 30)) w1.heap.size 30 (hdL .zero .nil) := At.new w1 30 (hdL .zero .nil)
  have hK1 := hK0.alloc (.cells #[.int .i64 0, .int .u8 0, .int .u8 0, .int .u8 0, .int .u8 0, .int .u8 0, .int .u8 0, .int .u8 0, .int .u8 0, .int .u8 0, .int .u8 0, .int .u8 0, .int .u8 0, .int .u8 0, .int .u8 0, .int .u8 0, .int .u8 0, .slice none 0 0, .int .i64 0, .bool false] 30)
  have hb1 := hb0.alloc hb0.size (.cells #[.int .i64 0, .int .u8 0, .int .u8 0, .int .u8 0, .int .u8 0, .int .u8 0, .int .u8 0, .int .u8 0, .int .u8 0, .int .u8 0, .int .u8 0, .int .u8 0, .int .u8 0, .int .u8 0, .int .u8 0, .int .u8 0, .int .u8 0, .slice none 0 0, .int .i64 0, .bool false] 30)
  have hlt0 := hK0.lt
  obtain ⟨w2, hw2⟩ : ∃ x, w1.alloc (.cells #[.int .i64 0, .int .u8 0, .int .u8 0, .int .u8 0, .int .u8 0, .int .u8 0, .int .u8 0, .int .u8 0, .int .u8 0, .int .u8 0, .int .u8 0, .int .u8 0, .int .u8 0, .int .u8 0, .int .u8 0, .int .u8 0, .int .u8 0, .slice none 0 0, .int .i64 0, .bool false] 30) = x := ⟨_, rfl⟩
  rw [hw2] at hP0 hK1 hb1
  have hr2 := (hr.below hb1).more hb1.size
  have hlt2 := hP0.lt
  have HKL := Lib.hid hKl
  have hpa := rparse_any A n c bs w2 hr2 hn hnc hcm hA
  unfold RPPost at hpa
  rw [h] at hpa
  have HPA := Lib.hid hpa
  clear hpa
  have hrev : revS mk bs = none := by unfold revS; rw [h]
  clear h
  go_enter Try.func27, Try.ntmps27
  go_wp2_with fail
  refine HPA.out.mono ?_
  rintro e w3 ⟨rfl, hb3⟩
  have hA3 : At (w3.alloc (.cells #[.int .i64 0, .int .u8 0, .int .u8 0, .int .u8 0, .int .u8 0, .int .u8 0, .int .u8 0, .int .u8 0, .int .u8 0, .int .u8 0, .int .u8 0, .int .u8 0, .int .u8 0, .int .u8 0, .int .u8 0, .int .u8 0, .int .u8 0, .slice none 0 0, .int .i64 0, .bool false] 30)) w3.heap.size 30 (hdL .zero .nil) := At.new w3 30 (hdL .zero .nil)
  have hP3 := (hP0.below hb3 hP0.lt).alloc (.cells #[.int .i64 0, .int .u8 0, .int .u8 0, .int .u8 0, .int .u8 0, .int .u8 0, .int .u8 0, .int .u8 0, .int .u8 0, .int .u8 0, .int .u8 0, .int .u8 0, .int .u8 0, .int .u8 0, .int .u8 0, .int .u8 0, .int .u8 0, .slice none 0 0, .int .i64 0, .bool false] 30)
  have hb4 := (hb1.trans (hb3.mono hb1.size)).alloc (by have := hb1.size; have := hb3.size; omega) (.cells #[.int .i64 0, .int .u8 0, .int .u8 0, .int .u8 0, .int .u8 0, .int .u8 0, .int .u8 0, .int .u8 0, .int .u8 0, .int .u8 0, .int .u8 0, .int .u8 0, .int .u8 0, .int .u8 0, .int .u8 0, .int .u8 0, .int .u8 0, .slice none 0 0, .int .i64 0, .bool false] 30)
  have hle3 := hb3.size
  have hvv : hdV HN.zero Sl.nil = .agg (hdL HN.zero Sl.nil).toArray := rfl
  rw [hvv]
  obtain ⟨L0, hL0⟩ : ∃ L, hdL HN.zero Sl.nil = L := ⟨_, rfl⟩
  have hL0l : L0.length = 20 := by rw [← hL0]; rfl
  have hL0o : L0.all (·.oneCell') = true := by rw [← hL0]; kernel_rfl
  rw [hL0] at hA3 ⊢
  clear hL0
  go_wp2_with (first | ((with_reducible refine at_sth (x := .tmp 9) ?_); refine st_hd w3.heap.size L0 L0 (by rfl) (by rfl) hA3 hL0l hL0l hL0o ?_; intro w4 hA4 hk4) | ((with_reducible refine at_sth (x := .tmp 4) ?_); refine st_hd w1.heap.size (hdL .zero .nil) (hdL .zero .nil) (by rfl) (by rfl) (hP3.kept hk4 (by omega)) rfl rfl (by kernel_rfl) ?_; intro w5 hP5 hk5) | fail)
  have hb5 := hk4.below hb4 hb4.size (by intro j hj; subst hj; omega)
  have hb6 := hk5.below hb5 hb5.size (by intro j hj; subst hj; omega)
  refine bodyPost_ret (results_cell_tmp4 4 5 6 7 8 30 (by rfl) _ 30 _ _ _ _ _ _ (by rfl) (by rfl) (by rfl) (by rfl) (by rfl) hP5 Try.underlying30 rfl hd_info) rfl ?_
  unfold RRvPost
  rw [hrev]
  exact ⟨rfl, hb6⟩
set_option maxRecDepth 100000 in
set_option maxHeartbeats 8000000 in
theorem rreveal_yes (sk mk : Int) (A : Option Addr) (n c : Nat) (bs : List Int) (w : World) (hr : Rd w w.heap.size A n bs) (hn : n ≤ 1000000) (hnc : n ≤ c) (hcm : c ≤ maxLen) (hA : A = none → c = 0) (k0 : 0 ≤ mk) (k1 : mk < 18446744073709551616) (m : HN) (tok : List Int) (a_ b_ : Int) (h : parseS bs = some (m, tok, a_, b_)) :
    Calls Try.prog 27 #[.agg (kL sk mk).toArray, .slice A n c] w (RRvPost mk bs w) := by
  obtain ⟨p1, p2, p3, p4, p5, p6⟩ := parse_bd bs m tok a_ b_ h
  obtain ⟨a, rfl⟩ : ∃ a : Nat, a_ = a := ⟨a_.toNat, by omega⟩
  obtain ⟨b, rfl⟩ : ∃ b : Nat, b_ = b := ⟨b_.toNat, by omega⟩
  have hc3 := hcm
  unfold maxLen at hc3
  have hrl := hr.1
  have hby := hr.2.1
  have hK0 : At (w.alloc (.cells (kL sk mk).toArray 24)) w.heap.size 24 (kL sk mk) := At.new w 24 _
  have hb0 : Below w.heap.size w (w.alloc (.cells (kL sk mk).toArray 24)) := (Below.refl _ _).alloc (Nat.le_refl _) _
  obtain ⟨lg, hlg⟩ : ∃ b : Bool, (m.s != 2) = b := ⟨_, rfl⟩
  have hmb : mbits m.s = maskB lg := by
    rw [← hlg]; unfold mbits maskB
    by_cases h2 : m.s = 2
    · rw [h2]; rfl
    · rw [if_neg h2, bne_iff_ne.2 h2]; rfl
  have hmk := Lib.hid (fun W A c (hA : Rd W W.heap.size A b (bs.take b)) (h1 : b ≤ c) (h2 : c ≤ maxLen) => rmask9_any sk mk A b c a 0 (bs.take b) lg W hA (by omega) h1 h2 (by omega) (by omega) (by omega) k0 k1)
  have hg0 : (bs.take b).getD 0 0 = bs.getD 0 0 := by rw [List.getD_eq_getElem?_getD, List.getD_eq_getElem?_getD, List.getElem?_take_of_lt (by omega)]
  unfold maskW at hmk
  rw [if_pos rfl, samS_take bs a b (by omega), hg0, ← hmb] at hmk
  obtain ⟨K, hK⟩ : ∃ K, kL sk mk = K := ⟨_, rfl⟩
  have hKl : K.length = 2 := by rw [← hK]; rfl
  rw [hK] at hK0 hb0 ⊢
  rw [hK] at hmk
  obtain ⟨w1, hw1⟩ : ∃ x, w.alloc (.cells K.toArray 24) = x := ⟨_, rfl⟩
  rw [hw1] at hK0 hb0
  have hP0 : At (w1.alloc (.cells #[.int .i64 0, .int .u8 0, .int .u8 0, .int .u8 0, .int .u8 0, .int .u8 0, .int .u8 0, .int .u8 0, .int .u8 0, .int .u8 0, .int .u8 0, .int .u8 0, .int .u8 0, .int .u8 0, .int .u8 0, .int .u8 0, .int .u8 0, .slice none 0 0, .int .i64 0, .bool false] 30)) w1.heap.size 30 (hdL .zero .nil) := At.new w1 30 (hdL .zero .nil)
  have hK1 := hK0.alloc (.cells #[.int .i64 0, .int .u8 0, .int .u8 0, .int .u8 0, .int .u8 0, .int .u8 0, .int .u8 0, .int .u8 0, .int .u8 0, .int .u8 0, .int .u8 0, .int .u8 0, .int .u8 0, .int .u8 0, .int .u8 0, .int .u8 0, .int .u8 0, .slice none 0 0, .int .i64 0, .bool false] 30)
  have hb1 := hb0.alloc hb0.size (.cells #[.int .i64 0, .int .u8 0, .int .u8 0, .int .u8 0, .int .u8 0, .int .u8 0, .int .u8 0, .int .u8 0, .int .u8 0, .int .u8 0, .int .u8 0, .int .u8 0, .int .u8 0, .int .u8 0, .int .u8 0, .int .u8 0, .int .u8 0, .slice none 0 0, .int .i64 0, .bool false] 30)
  have hlt0 := hK0.lt
  obtain ⟨w2, hw2⟩ : ∃ x, w1.alloc (.cells #[.int .i64 0, .int .u8 0, .int .u8 0, .int .u8 0, .int .u8 0, .int .u8 0, .int .u8 0, .int .u8 0, .int .u8 0, .int .u8 0, .int .u8 0, .int .u8 0, .int .u8 0, .int .u8 0, .int .u8 0, .int .u8 0, .int .u8 0, .slice none 0 0, .int .i64 0, .bool false] 30) = x := ⟨_, rfl⟩
  rw [hw2] at hP0 hK1 hb1
  have hr2 := (hr.below hb1).more hb1.size
  have hlt2 := hP0.lt
  have HKL := Lib.hid hKl
  have hpa := rparse_any A n c bs w2 hr2 hn hnc hcm hA
  unfold RPPost at hpa
  rw [h] at hpa
  have HPA := Lib.hid hpa
  clear hpa
  have hrev : revS mk bs = some ⟨revHN (firstU mk bs m a) m, tok, lowS3 (((turnB (bs.take b) (maskS mk (samS bs a)) a (firstU mk bs m a % 4 + 1).toNat (mbits m.s)).drop a).take (firstU mk bs m a % 4 + 1).toNat), turnB (bs.take b) (maskS mk (samS bs a)) a (firstU mk bs m a % 4 + 1).toNat (mbits m.s), a + (firstU mk bs m a % 4 + 1).toNat, b⟩ := by
    unfold revS; rw [h]; rfl
  have hfu : firstU mk bs m a = xorB (bs.getD 0 0) (andB ((maskS mk (samS bs a)).getD 0 0) (mbits m.s)) := rfl
  rw [← hfu] at hmk
  have hXh : (turnB (bs.take b) (maskS mk (samS bs a)) a (firstU mk bs m a % 4 + 1).toNat (mbits m.s)).getD 0 0 = firstU mk bs m a := by
    rw [turnB_head _ _ _ _ _ (by omega) (by rw [List.length_take]; omega), hg0, hfu]
  have hXl : (turnB (bs.take b) (maskS mk (samS bs a)) a (firstU mk bs m a % 4 + 1).toNat (mbits m.s)).length = b := by rw [turnB_len, List.length_take]; omega
  have hXb := turnB_byt (bs.take b) (maskS mk (samS bs a)) a (firstU mk bs m a % 4 + 1).toNat (mbits m.s) (hby.take b)
  have hfb : 0 ≤ firstU mk bs m a ∧ firstU mk bs m a < 256 := by rw [hfu]; exact xorB_bd _ _
  obtain ⟨f, hf⟩ : ∃ f, firstU mk bs m a = f := ⟨_, rfl⟩
  rw [hf] at hrev hmk hXh hfb hXl hXb
  obtain ⟨k, hk⟩ : ∃ k : Nat, (f % 4 + 1).toNat = k := ⟨_, rfl⟩
  have hkI : f % 4 + 1 = (k : Int) := by omega
  have hk1 : 1 ≤ k ∧ k ≤ 4 := by omega
  rw [hk] at hrev hmk hXh hXl hXb
  obtain ⟨X, hX⟩ : ∃ X, turnB (bs.take b) (maskS mk (samS bs a)) a k (mbits m.s) = X := ⟨_, rfl⟩
  rw [hX] at hrev hmk hXh hXl hXb
  have HREV := Lib.hid hrev
  have HXH := Lib.hid hXh
  have HXL := Lib.hid hXl
  have HLG := Lib.hid hlg
  clear hrev hXh hXl hX hk hf hfu hg0 hmb hlg
  obtain ⟨bk, off, rfl, hbk, hcl⟩ := hr.2.2 (by omega)
  have hr2' := RdP.of_rd (hr.below hb1) hb1.size
  have HRR := Lib.hid hr2'
  clear hr2' hr2 hcl hr
  go_enter Try.func27, Try.ntmps27
  go_wp2_with fail
  refine HPA.out.mono ?_
  rintro e w3 ⟨⟨d, rfl, hd, hwf⟩, hb3⟩
  have hA3 : At (w3.alloc (.cells #[.int .i64 0, .int .u8 0, .int .u8 0, .int .u8 0, .int .u8 0, .int .u8 0, .int .u8 0, .int .u8 0, .int .u8 0, .int .u8 0, .int .u8 0, .int .u8 0, .int .u8 0, .int .u8 0, .int .u8 0, .int .u8 0, .int .u8 0, .slice none 0 0, .int .i64 0, .bool false] 30)) w3.heap.size 30 (hdL .zero .nil) := At.new w3 30 (hdL .zero .nil)
  have hP3 := hP0.below hb3 hP0.lt
  have hK3 := hK1.below hb3 hK1.lt
  have hR3 := HRR.out.kept (Kept.of_below hb3 (fun _ => False)) (fun _ _ x => x)
  have hQ3 : Kept (fun j => w3.heap.size ≤ j) w3 (w3.alloc (.cells #[.int .i64 0, .int .u8 0, .int .u8 0, .int .u8 0, .int .u8 0, .int .u8 0, .int .u8 0, .int .u8 0, .int .u8 0, .int .u8 0, .int .u8 0, .int .u8 0, .int .u8 0, .int .u8 0, .int .u8 0, .int .u8 0, .int .u8 0, .slice none 0 0, .int .i64 0, .bool false] 30)) := (Kept.refl _ _).alloc _
  have hle3 := hb3.size
  have hle1 := hb1.size
  have hd3 := hd.mono (P' := fun b => w2.heap.size ≤ b ∧ b < w3.heap.size) (fun b h1 h2 => ⟨h2, h1⟩)
  have hb4 := hb1.trans (hb3.mono hb1.size)
  have hvv : hdV m d = .agg (hdL m d).toArray := rfl
  rw [hvv]
  have hset : ((hdL m d).set 18 (.int .i64 (k : Int))).set 19 (.bool (decide (m.s = 2) && decide (f / 4 % 2 = 1))) = hdL (revHN f m) d := by unfold revHN; rw [hkI]; rfl
  have hcs : (hdL m d)[0]? = some (.int .i64 m.s) := rfl
  have hcw : (hdL m d)[18]? = some (.int .i64 m.w) := rfl
  have hcp : (hdL m d)[19]? = some (.bool m.ph) := rfl
  have hLo : (hdL m d).all (·.oneCell') = true := rfl
  obtain ⟨L, hL⟩ : ∃ L, hdL m d = L := ⟨_, rfl⟩
  have hLl : L.length = 20 := by rw [← hL]; rfl
  rw [hL] at hset hcs hcw hcp hLo ⊢
  have HSET := Lib.hid hset
  have HCS := Lib.hid hcs
  have HCW := Lib.hid hcw
  have HCP := Lib.hid hcp
  have HLL := Lib.hid hLl
  clear hset hcs hcw hcp hLl hvv hL hd hP0 hK1
  go_wp2_with (first | ((with_reducible refine at_sth ?_); refine st_hd w3.heap.size (hdL .zero .nil) L (by rfl) (by rfl) hA3 rfl HLL.out hLo ?_; intro w4 hA4 hk4) | fail)
  have hQ4 := hQ3.trans (hk4.mono (fun j hj => .inl (by omega)))
  have hs4 := hQ4.size
  have hR4 := (hR3.kept hQ4 (fun b hb => by omega)).cutTo (m := b) (by omega)
  have hbc : b ≤ c := by omega
  have hbcI : (b : Int) ≤ (c : Int) := by omega
  have hS4 : RaS w.heap.size w3.heap.size K m.s w4.drew := ⟨(hK3.kept hQ4 (by omega)).drew, by show w4.cell? _ = _; rw [hA4.cell 0]; exact HCS.out⟩
  have hA5 := hA4.drew
  have hQ5 := hQ4.drew
  have hR5 := hR4.1.drew
  obtain ⟨Y, hY⟩ : ∃ x, w4.drew = x := ⟨_, rfl⟩
  have hszY : w4.drew.heap.size = w4.heap.size := rfl
  rw [← hszY] at hR5
  rw [hY] at hS4 hA5 hQ5 hR5
  have hlg2 := HLG.out
  clear hszY hA4 hQ4 hR4 hk4 hQ3 hA3 hs4
  refine wp_region_held_drew (S := (RaS w.heap.size w3.heap.size K m.s)) (by kernel_rfl) (by rw [hY]; exact hS4) (fun hHeld => ?_)
  rw [hY] at hHeld ⊢
  clear hY
  refine tkq 0 (some 26) (v := ?_) rfl ?_ (by assumption) ?_
  rotate_left
  · refine yl_any 24 (.tmp 2) ?_ w.heap.size 0 ?_ K _ ?_ Try.underlying24 rfl ?_ ?_
    · rfl
    · rfl
    · intro w hSw; exact hSw.k.rangeAt
    · rw [HKL.out]; exact rkt_info
    · rfl
  simp only [Act.put, List.setIfInBounds_toArray, List.set_cons_zero, List.set_cons_succ]
  refine tkq 1 (some 27) (v := ?_) rfl (Or.inl ⟨by rfl, ?_⟩) (by assumption) ?_
  rotate_left
  · intro w hSw; (try dsimp only at hSw); go_simp; first | done | (with_reducible rfl)
  simp only [Act.put, List.setIfInBounds_toArray, List.set_cons_zero, List.set_cons_succ]
  refine tkq 2 (some 28) (v := ?_) rfl (Or.inl ⟨by rfl, ?_⟩) (by assumption) ?_
  rotate_left
  · intro w hSw; (try dsimp only at hSw); go_simp; first | done | (with_reducible rfl)
  simp only [Act.put, List.setIfInBounds_toArray, List.set_cons_zero, List.set_cons_succ]
  refine tkq 3 (some 29) (v := ?_) rfl (Or.inl ⟨by rfl, ?_⟩) (by assumption) ?_
  rotate_left
  · intro w hSw; (try dsimp only at hSw); go_simp; first | done | (with_reducible rfl)
  simp only [Act.put, List.setIfInBounds_toArray, List.set_cons_zero, List.set_cons_succ]
  refine tkq 4 (some 30) (v := ?_) rfl (Or.inl ⟨by rfl, ?_⟩) (by assumption) ?_
  rotate_left
  · intro w hSw; (try dsimp only at hSw); go_simp; first | done | (with_reducible rfl)
  simp only [Act.put, List.setIfInBounds_toArray, List.set_cons_zero, List.set_cons_succ]
  refine tkq 5 (some 31) (v := ?_) rfl (Or.inl ⟨by rfl, ?_⟩) (by assumption) ?_
  rotate_left
  · intro w hSw; (try dsimp only at hSw); go_simp; first | done | (with_reducible rfl)
  simp only [Act.put, List.setIfInBounds_toArray, List.set_cons_zero, List.set_cons_succ]
  refine tkq 6 (some 32) (v := ?_) rfl (Or.inl ⟨by rfl, ?_⟩) (by assumption) ?_
  rotate_left
  · intro w hSw; (try dsimp only at hSw); have h1 := hSw.s; go_simp; first | done | (with_reducible rfl)
  simp only [Act.put, List.setIfInBounds_toArray, List.set_cons_zero, List.set_cons_succ]
  refine tkq 7 (some 33) (v := ?_) rfl (Or.inl ⟨by rfl, ?_⟩) (by assumption) ?_
  rotate_left
  · intro w hSw; (try dsimp only at hSw); go_simp; first | done | (with_reducible rfl)
  simp only [Act.put, List.setIfInBounds_toArray, List.set_cons_zero, List.set_cons_succ]
  refine wpAnyH_ready (rs := [8]) (by kernel_rfl) (by simp) ?_
  refine AllReadyH.cons rfl (fun K hK => ?_) AllReadyH.nil
  go_simp
  go_wp2_with (go_at_call 24; refine (hmk.out _ (some ⟨bk, off, none⟩) c hR5 hbc hcm).mono ?_; rintro e W5 ⟨v5, rfl, ho5, hb5⟩)
  have hS5 := hS4.below hb5
  refine hK.out _ _ (hS5) (fun hHeld => ?_)
  clear hK K
  refine tkq 9 (some 13) (v := ?_) rfl (Or.inl ⟨by rfl, ?_⟩) (by assumption) ?_
  rotate_left
  · intro w hSw; (try dsimp only at hSw); go_simp; first | done | (with_reducible rfl)
  simp only [Act.put, List.setIfInBounds_toArray, List.set_cons_zero, List.set_cons_succ]
  refine wpAnyH_done (by kernel_rfl) ?_ _
  have hA6 := hA5.below hb5 hA5.lt
  have hQ6 := hQ5.trans (Kept.of_below hb5 _)
  have hs5 := hQ5.size
  have hs6 := hQ6.size
  have hl5 := hA5.lt
  obtain ⟨g5, c5, _, rfl, _, _, _, hgb, x1, x2⟩ := ho5.place (by rw [HXL.out]; omega)
  rw [HXL.out] at ho5 x1 ⊢
  have hfx := (own_cell ho5 HXL.out 0 f (by rw [← HXH.out, List.getD_eq_getElem?_getD, List.getElem?_eq_getElem (by rw [HXL.out]; omega)]; rfl)).1
  have hand3 := b_and3 f hfb.1 hfb.2
  have hand4 := b_and4 f hfb.1 hfb.2
  have hcw7 := (show W5.cell? ⟨w3.heap.size, 18, none⟩ = some (.int .i64 m.w) by rw [hA6.cell 18, HCW.out])
  have hfz7 := hA6.frozen 18
  have hkW : IntKind.i64.wrap (f % 4 + 1) = (k : Int) := by rw [hkI]; exact IntWalk.i64_in _ (by omega)
  obtain ⟨W8, hW8⟩ : ∃ x, W5.setCell ⟨w3.heap.size, 18, none⟩ (.int .i64 (k : Int)) = x := ⟨_, rfl⟩
  have hh8 := hA6.set 18 (.int .i64 (k : Int))
  have hQ8 := hQ6.setCell (p := ⟨w3.heap.size, 18, none⟩) (.inl (Nat.le_refl _)) (.int .i64 (k : Int))
  have ho8 := ho5.kept ((Kept.refl (· = w3.heap.size) W5).setAt 18 (.int .i64 (k : Int))) (fun j hj hh => by have h7 : (some g5 : Option Nat) = some j := hj; injection h7 with h7; have h6 : j = w3.heap.size := hh; omega)
  rw [hW8] at hh8 hQ8 ho8
  have hfx8 := (own_cell ho8 HXL.out 0 f (by rw [← HXH.out, List.getD_eq_getElem?_getD, List.getElem?_eq_getElem (by rw [HXL.out]; omega)]; rfl)).1
  have hc08 := (show W8.cell? ⟨w3.heap.size, 0, none⟩ = some (.int .i64 m.s) by rw [hh8.cell 0, List.getElem?_set_ne (by decide), HCS.out])
  have hc98 := (show W8.cell? ⟨w3.heap.size, 19, none⟩ = some (.bool m.ph) by rw [hh8.cell 19, List.getElem?_set_ne (by decide), HCP.out])
  have hfz8 := hh8.frozen 19
  have hs8 := hQ8.size
  obtain ⟨q, hq⟩ : ∃ q, (decide (m.s = 2) && decide (f / 4 % 2 = 1)) = q := ⟨_, rfl⟩
  rw [hq] at HSET
  have hh9 := hh8.set 19 (.bool q)
  rw [HSET.out] at hh9
  have hQ9 := hQ8.setCell (p := ⟨w3.heap.size, 19, none⟩) (.inl (Nat.le_refl _)) (.bool q)
  have ho9 := ho8.kept ((Kept.refl (· = w3.heap.size) W8).setAt 19 (.bool q)) (fun j hj hh => by have h7 : (some g5 : Option Nat) = some j := hj; injection h7 with h7; have h6 : j = w3.heap.size := hh; omega)
  obtain ⟨W9, hW9⟩ : ∃ x, W8.setCell ⟨w3.heap.size, 19, none⟩ (.bool q) = x := ⟨_, rfl⟩
  rw [hW9] at hh9 hQ9 ho9
  have hcw9 := (show W9.cell? ⟨w3.heap.size, 18, none⟩ = some (.int .i64 (k : Int)) by rw [hh9.cell 18]; unfold revHN; rw [hkI]; rfl)
  have HP9 := Lib.hid (And.intro hh9 (And.intro hQ9 ho9))
  have hb5c : 0 < b := by omega
  have h5c : 0 < c5 := by omega
  clear hh8 hQ8 hh9 hQ9 ho8 ho9 ho5 hA6 hQ6 hA5 hQ5 hS4 hS5 hHeld hR5 hlg2
  by_cases h2 : m.s = 2
  · have hg : decide (m.s = 2) = true := decide_eq_true h2
    have hqd : decide (f / 4 % 2 = 1) = q := by rw [hg] at hq; simpa using hq
    have hq9 : (f / 4 % 2 * 4 != 0) = q := by
      rw [← hqd]
      rcases (show f / 4 % 2 = 0 ∨ f / 4 % 2 = 1 by omega) with h9 | h9 <;> rw [h9] <;> rfl
    clear hqd hq
    go_wp2_with fail
    obtain ⟨Z, hZ⟩ : ∃ Z, (X.drop a).take k = Z := ⟨_, rfl⟩
    have hZl : Z.length = k := by rw [← hZ, List.length_take, List.length_drop, HXL.out]; omega
    have hZg : ∀ j, j < k → Z.getD j 0 = X.getD (a + j) 0 := fun j hj => by rw [← hZ, List.getD_eq_getElem?_getD, List.getD_eq_getElem?_getD, List.getElem?_take_of_lt hj, List.getElem?_drop]
    have hst := lowS3_step Z
    rw [hZl] at hst
    have ST := Lib.hid hst
    have HZ := Lib.hid hZ
    have HZL := Lib.hid hZl
    have HZG := Lib.hid hZg
    have hlow0 : lowS3 (Z.take 0) = 0 := rfl
    have HL0 := Lib.hid hlow0
    have HXC := Lib.hid (fun j (hj : j < b) => (own_cell HP9.out.2.2 HXL.out j (X.getD j 0) (by rw [List.getD_eq_getElem?_getD, List.getElem?_eq_getElem (by rw [HXL.out]; omega)]; rfl)).1)
    clear hst hZ hZl hZg hlow0
    go_loop [14, 15] (fun v i => ∃ j : Nat, j ≤ k ∧ i = .int .i64 j ∧ v = .int .u32 (lowS3 (Z.take j))) (fun _ i => k - (intOf i).toNat)
    case atStart => exact ⟨0, Nat.zero_le _, rfl, by rw [HL0.out]⟩
    case round =>
      obtain ⟨j, hj, rfl, rfl⟩ := hrel
      by_cases hlt : j < k
      · obtain ⟨r, hr⟩ : ∃ r, a + j = r := ⟨_, rfl⟩
        have hcr := HXC.out r (by omega)
        have hs := ST.out j hlt
        rw [HZG.out j hlt, hr] at hs
        have hyb := hXb.getD r
        unfold orL at hs
        obtain ⟨y, hy0⟩ : ∃ y, X.getD r 0 = y := ⟨_, rfl⟩
        rw [hy0] at hcr hs hyb
        obtain ⟨H, hH⟩ : ∃ H, lowS3 (Z.take j) = H := ⟨_, rfl⟩
        rw [hH] at hs
        rw [hH]
        have hsh : H * 2 ^ 8 = H * 256 := by omega
        have S := Lib.hid hs
        have hp5 : IntKind.i64.wrap ((a : Int) + (j : Int)) = (r : Int) := by rw [show (a : Int) + (j : Int) = (r : Int) by omega]; exact IntWalk.i64_in _ (by omega)
        have hrb : r < b := by omega
        have hrbI : (r : Int) < (b : Int) := by omega
        have hrc5 : r < c5 := by omega
        obtain ⟨hy1, hy2⟩ := hyb
        clear hs hy0 hH hr
        go_wp2_with fail
        go_round
        case rel => exact ⟨j + 1, by omega, by go_num, by rw [S.out, IntKind.wrap_u32]⟩
        case measure => simp [intOf]; omega
      · obtain rfl : j = k := by omega
        have hzt : Z.take j = Z := List.take_of_length_le (by rw [HZL.out]; omega)
        rw [hzt]
        obtain ⟨low, hlow⟩ : ∃ l, lowS3 Z = l := ⟨_, rfl⟩
        have HLW := Lib.hid hlow
        rw [hlow]
        have hvv : hdV (revHN f m) d = .agg (hdL (revHN f m) d).toArray := rfl
        have hMwf : (revHN f m).wf := ⟨hwf.s0, hwf.s1, by show -9223372036854775808 ≤ f % 4 + 1; omega, by show f % 4 + 1 ≤ 9223372036854775807; omega, hwf.tb, hwf.fb⟩
        have hLo2 : (hdL (revHN f m) d).all (·.oneCell') = true := rfl
        have hh9 := HP9.out.1
        have hQ9 := HP9.out.2.1
        have ho9 := HP9.out.2.2
        obtain ⟨L2, hL2⟩ : ∃ L, hdL (revHN f m) d = L := ⟨_, rfl⟩
        have hL2l : L2.length = 20 := by rw [← hL2]; rfl
        rw [hL2] at hvv hLo2 hh9
        have HLL2 := Lib.hid hL2l
        have HVV := Lib.hid hvv
        have hRJ : revS mk bs = some ⟨revHN f m, tok, low, X, a + j, b⟩ := by rw [HREV.out, HZ.out, HLW.out]
        have HRJ := Lib.hid hRJ
        have hP9 := hP3.kept hQ9 (by omega)
        obtain ⟨e', he'⟩ : ∃ e, a + j = e := ⟨_, rfl⟩
        have hp7 : IntKind.i64.wrap ((a : Int) + (j : Int)) = (e' : Int) := by rw [show (a : Int) + (j : Int) = (e' : Int) by omega]; exact IntWalk.i64_in _ (by omega)
        have HE' := Lib.hid he'
        clear hzt hlow hvv hL2 hL2l hRJ HP9 he'
        go_wp2_with fail
        have hS9 : RbS w3.heap.size L2 (j : Int) W9.drew := ⟨hh9.drew, hcw9⟩
        have hP10 := hP9.drew
        have hQ10 := hQ9.drew
        have ho10 := ho9.drew
        obtain ⟨Y3, hY3⟩ : ∃ x, W9.drew = x := ⟨_, rfl⟩
        rw [hY3] at hS9 hP10 hQ10 ho10
        refine wp_region_held_drew (S := (RbS w3.heap.size L2 (j : Int))) (by kernel_rfl) (by rw [hY3]; exact hS9) (fun hHeld => ?_)
        rw [hY3] at hHeld ⊢
        clear hY3
        refine tkq 0 (some 69) (v := ?_) rfl ?_ (by assumption) ?_
        rotate_left
        · refine yl_any 30 (.tmp 9) ?_ w3.heap.size 0 ?_ L2 _ ?_ Try.underlying30 rfl ?_ ?_
          · rfl
          · rfl
          · intro w hSw; exact hSw.h.rangeAt
          · rw [HLL2.out]; exact hd_info
          · rfl
        simp only [Act.put, List.setIfInBounds_toArray, List.set_cons_zero, List.set_cons_succ]
        refine tkq 1 (some 70) (v := ?_) rfl (Or.inl ⟨by rfl, ?_⟩) (by assumption) ?_
        rotate_left
        · intro w hSw; (try dsimp only at hSw); go_simp; first | done | (with_reducible rfl)
        simp only [Act.put, List.setIfInBounds_toArray, List.set_cons_zero, List.set_cons_succ]
        refine tkq 2 (some 71) (v := ?_) rfl (Or.inl ⟨by rfl, ?_⟩) (by assumption) ?_
        rotate_left
        · intro w hSw; (try dsimp only at hSw); go_simp; first | done | (with_reducible rfl)
        simp only [Act.put, List.setIfInBounds_toArray, List.set_cons_zero, List.set_cons_succ]
        refine tkq 3 (some 72) (v := ?_) rfl (Or.inl ⟨by rfl, ?_⟩) (by assumption) ?_
        rotate_left
        · intro w hSw; (try dsimp only at hSw); go_simp; first | done | (with_reducible rfl)
        simp only [Act.put, List.setIfInBounds_toArray, List.set_cons_zero, List.set_cons_succ]
        refine tkq 4 (some 73) (v := ?_) rfl (Or.inl ⟨by rfl, ?_⟩) (by assumption) ?_
        rotate_left
        · intro w hSw; (try dsimp only at hSw); go_simp; first | done | (with_reducible rfl)
        simp only [Act.put, List.setIfInBounds_toArray, List.set_cons_zero, List.set_cons_succ]
        refine tkq 5 (some 74) (v := ?_) rfl (Or.inl ⟨by rfl, ?_⟩) (by assumption) ?_
        rotate_left
        · intro w hSw; (try dsimp only at hSw); have h1 := hSw.w; go_simp; first | done | (with_reducible rfl)
        simp only [Act.put, List.setIfInBounds_toArray, List.set_cons_zero, List.set_cons_succ]
        refine tkq 6 (some 75) (v := ?_) rfl (Or.inl ⟨by rfl, ?_⟩) (by assumption) ?_
        rotate_left
        · intro w hSw; (try dsimp only at hSw); go_simp; first | done | (with_reducible rfl)
        simp only [Act.put, List.setIfInBounds_toArray, List.set_cons_zero, List.set_cons_succ]
        refine wpAnyH_ready (rs := [7]) (by kernel_rfl) (by simp) ?_
        refine AllReadyH.cons rfl (fun K hK => ?_) AllReadyH.nil
        refine step_st_any (by rfl) w1.heap.size 30 (hdL .zero .nil) L2 (by rfl) (by rfl) hP10 (by rw [HLL2.out]; rfl) (by rw [HLL2.out]; exact hd_info) hLo2 ?_
        intro w11 hP11 hk11
        have hS11 := hS9.kept hk11 (by omega)
        refine hK.out _ _ (hS11) (fun hHeld => ?_)
        clear hK K
        refine tkq 8 (some 5) (v := ?_) rfl (Or.inl ⟨by rfl, ?_⟩) (by assumption) ?_
        rotate_left
        · intro w hSw; (try dsimp only at hSw); go_simp; first | done | (with_reducible rfl)
        simp only [Act.put, List.setIfInBounds_toArray, List.set_cons_zero, List.set_cons_succ]
        refine tkq 9 (some 6) (v := ?_) rfl (Or.inl ⟨by rfl, ?_⟩) (by assumption) ?_
        rotate_left
        · intro w hSw; (try dsimp only at hSw); go_simp; first | done | (with_reducible rfl)
        simp only [Act.put, List.setIfInBounds_toArray, List.set_cons_zero, List.set_cons_succ]
        refine tkq 10 (some 7) (v := ?_) rfl (Or.inl ⟨by rfl, ?_⟩) (by assumption) ?_
        rotate_left
        · intro w hSw; (try dsimp only at hSw); go_simp; first | done | (with_reducible rfl)
        simp only [Act.put, List.setIfInBounds_toArray, List.set_cons_zero, List.set_cons_succ]
        refine tkq 11 (some 8) (v := ?_) rfl (Or.inl ⟨by rfl, ?_⟩) (by assumption) ?_
        rotate_left
        · intro w hSw; (try dsimp only at hSw); go_simp; first | done | (with_reducible rfl)
        simp only [Act.put, List.setIfInBounds_toArray, List.set_cons_zero, List.set_cons_succ]
        refine wpAnyH_done (by kernel_rfl) ?_ _
        go_wp2_with fail
        refine bodyPost_ret (results_cell_tmp4 4 5 6 7 8 30 (by rfl) _ 30 _ _ _ _ _ _ (by rfl) (by rfl) (by rfl) (by rfl) (by rfl) hP11 Try.underlying30 rfl (by rw [HLL2.out]; exact hd_info)) rfl ?_
        have hQ11 : Kept (fun j => j = w1.heap.size ∨ w3.heap.size ≤ j) w3 w11 := (hQ10.mono (S' := fun j => j = w1.heap.size ∨ w3.heap.size ≤ j) (fun j hj => .inl (.inr hj))).trans (hk11.mono (fun j hj => .inl (.inl hj)))
        have hd11 := hd3.kept hQ11 (fun b hb hh => by have h9 : w2.heap.size ≤ b ∧ b < w3.heap.size := hb; have h7 : b = w1.heap.size ∨ w3.heap.size ≤ b := hh; omega)
        have ho11 := ho10.kept hk11 (fun j hj hh => by have h7 : (some g5 : Option Nat) = some j := hj; injection h7 with h7; have h6 : j = w1.heap.size := hh; omega)
        unfold RRvPost
        rw [HRJ.out, HE'.out]
        exact ⟨⟨d, _, by show _ = Ending.returned (.tuple #[hdV (revHN f m) d, .int .u32 low, .slice (some ⟨g5, 0, none⟩) b c5, .int .i64 e', .bool true]); rw [HVV.out]; rfl, hd11.mono (fun b _ hb => by have h9 : w2.heap.size ≤ b ∧ b < w3.heap.size := hb; show w.heap.size ≤ b; omega), hMwf, ho11.base_ (by omega)⟩, hQ11.below hb4 hb4.size (by intro j hj; omega)⟩
  · have hg : decide (m.s = 2) = false := decide_eq_false h2
    have hq9 : q = false := by rw [hg] at hq; simpa using hq.symm
    subst hq9
    clear hq
    go_wp2_with fail
    obtain ⟨Z, hZ⟩ : ∃ Z, (X.drop a).take k = Z := ⟨_, rfl⟩
    have hZl : Z.length = k := by rw [← hZ, List.length_take, List.length_drop, HXL.out]; omega
    have hZg : ∀ j, j < k → Z.getD j 0 = X.getD (a + j) 0 := fun j hj => by rw [← hZ, List.getD_eq_getElem?_getD, List.getD_eq_getElem?_getD, List.getElem?_take_of_lt hj, List.getElem?_drop]
    have hst := lowS3_step Z
    rw [hZl] at hst
    have ST := Lib.hid hst
    have HZ := Lib.hid hZ
    have HZL := Lib.hid hZl
    have HZG := Lib.hid hZg
    have hlow0 : lowS3 (Z.take 0) = 0 := rfl
    have HL0 := Lib.hid hlow0
    have HXC := Lib.hid (fun j (hj : j < b) => (own_cell HP9.out.2.2 HXL.out j (X.getD j 0) (by rw [List.getD_eq_getElem?_getD, List.getElem?_eq_getElem (by rw [HXL.out]; omega)]; rfl)).1)
    clear hst hZ hZl hZg hlow0
    go_loop [14, 15] (fun v i => ∃ j : Nat, j ≤ k ∧ i = .int .i64 j ∧ v = .int .u32 (lowS3 (Z.take j))) (fun _ i => k - (intOf i).toNat)
    case atStart => exact ⟨0, Nat.zero_le _, rfl, by rw [HL0.out]⟩
    case round =>
      obtain ⟨j, hj, rfl, rfl⟩ := hrel
      by_cases hlt : j < k
      · obtain ⟨r, hr⟩ : ∃ r, a + j = r := ⟨_, rfl⟩
        have hcr := HXC.out r (by omega)
        have hs := ST.out j hlt
        rw [HZG.out j hlt, hr] at hs
        have hyb := hXb.getD r
        unfold orL at hs
        obtain ⟨y, hy0⟩ : ∃ y, X.getD r 0 = y := ⟨_, rfl⟩
        rw [hy0] at hcr hs hyb
        obtain ⟨H, hH⟩ : ∃ H, lowS3 (Z.take j) = H := ⟨_, rfl⟩
        rw [hH] at hs
        rw [hH]
        have hsh : H * 2 ^ 8 = H * 256 := by omega
        have S := Lib.hid hs
        have hp5 : IntKind.i64.wrap ((a : Int) + (j : Int)) = (r : Int) := by rw [show (a : Int) + (j : Int) = (r : Int) by omega]; exact IntWalk.i64_in _ (by omega)
        have hrb : r < b := by omega
        have hrbI : (r : Int) < (b : Int) := by omega
        have hrc5 : r < c5 := by omega
        obtain ⟨hy1, hy2⟩ := hyb
        clear hs hy0 hH hr
        go_wp2_with fail
        go_round
        case rel => exact ⟨j + 1, by omega, by go_num, by rw [S.out, IntKind.wrap_u32]⟩
        case measure => simp [intOf]; omega
      · obtain rfl : j = k := by omega
        have hzt : Z.take j = Z := List.take_of_length_le (by rw [HZL.out]; omega)
        rw [hzt]
        obtain ⟨low, hlow⟩ : ∃ l, lowS3 Z = l := ⟨_, rfl⟩
        have HLW := Lib.hid hlow
        rw [hlow]
        have hvv : hdV (revHN f m) d = .agg (hdL (revHN f m) d).toArray := rfl
        have hMwf : (revHN f m).wf := ⟨hwf.s0, hwf.s1, by show -9223372036854775808 ≤ f % 4 + 1; omega, by show f % 4 + 1 ≤ 9223372036854775807; omega, hwf.tb, hwf.fb⟩
        have hLo2 : (hdL (revHN f m) d).all (·.oneCell') = true := rfl
        have hh9 := HP9.out.1
        have hQ9 := HP9.out.2.1
        have ho9 := HP9.out.2.2
        obtain ⟨L2, hL2⟩ : ∃ L, hdL (revHN f m) d = L := ⟨_, rfl⟩
        have hL2l : L2.length = 20 := by rw [← hL2]; rfl
        rw [hL2] at hvv hLo2 hh9
        have HLL2 := Lib.hid hL2l
        have HVV := Lib.hid hvv
        have hRJ : revS mk bs = some ⟨revHN f m, tok, low, X, a + j, b⟩ := by rw [HREV.out, HZ.out, HLW.out]
        have HRJ := Lib.hid hRJ
        have hP9 := hP3.kept hQ9 (by omega)
        obtain ⟨e', he'⟩ : ∃ e, a + j = e := ⟨_, rfl⟩
        have hp7 : IntKind.i64.wrap ((a : Int) + (j : Int)) = (e' : Int) := by rw [show (a : Int) + (j : Int) = (e' : Int) by omega]; exact IntWalk.i64_in _ (by omega)
        have HE' := Lib.hid he'
        clear hzt hlow hvv hL2 hL2l hRJ HP9 he'
        go_wp2_with fail
        have hS9 : RbS w3.heap.size L2 (j : Int) W9.drew := ⟨hh9.drew, hcw9⟩
        have hP10 := hP9.drew
        have hQ10 := hQ9.drew
        have ho10 := ho9.drew
        obtain ⟨Y3, hY3⟩ : ∃ x, W9.drew = x := ⟨_, rfl⟩
        rw [hY3] at hS9 hP10 hQ10 ho10
        refine wp_region_held_drew (S := (RbS w3.heap.size L2 (j : Int))) (by kernel_rfl) (by rw [hY3]; exact hS9) (fun hHeld => ?_)
        rw [hY3] at hHeld ⊢
        clear hY3
        refine tkq 0 (some 69) (v := ?_) rfl ?_ (by assumption) ?_
        rotate_left
        · refine yl_any 30 (.tmp 9) ?_ w3.heap.size 0 ?_ L2 _ ?_ Try.underlying30 rfl ?_ ?_
          · rfl
          · rfl
          · intro w hSw; exact hSw.h.rangeAt
          · rw [HLL2.out]; exact hd_info
          · rfl
        simp only [Act.put, List.setIfInBounds_toArray, List.set_cons_zero, List.set_cons_succ]
        refine tkq 1 (some 70) (v := ?_) rfl (Or.inl ⟨by rfl, ?_⟩) (by assumption) ?_
        rotate_left
        · intro w hSw; (try dsimp only at hSw); go_simp; first | done | (with_reducible rfl)
        simp only [Act.put, List.setIfInBounds_toArray, List.set_cons_zero, List.set_cons_succ]
        refine tkq 2 (some 71) (v := ?_) rfl (Or.inl ⟨by rfl, ?_⟩) (by assumption) ?_
        rotate_left
        · intro w hSw; (try dsimp only at hSw); go_simp; first | done | (with_reducible rfl)
        simp only [Act.put, List.setIfInBounds_toArray, List.set_cons_zero, List.set_cons_succ]
        refine tkq 3 (some 72) (v := ?_) rfl (Or.inl ⟨by rfl, ?_⟩) (by assumption) ?_
        rotate_left
        · intro w hSw; (try dsimp only at hSw); go_simp; first | done | (with_reducible rfl)
        simp only [Act.put, List.setIfInBounds_toArray, List.set_cons_zero, List.set_cons_succ]
        refine tkq 4 (some 73) (v := ?_) rfl (Or.inl ⟨by rfl, ?_⟩) (by assumption) ?_
        rotate_left
        · intro w hSw; (try dsimp only at hSw); go_simp; first | done | (with_reducible rfl)
        simp only [Act.put, List.setIfInBounds_toArray, List.set_cons_zero, List.set_cons_succ]
        refine tkq 5 (some 74) (v := ?_) rfl (Or.inl ⟨by rfl, ?_⟩) (by assumption) ?_
        rotate_left
        · intro w hSw; (try dsimp only at hSw); have h1 := hSw.w; go_simp; first | done | (with_reducible rfl)
        simp only [Act.put, List.setIfInBounds_toArray, List.set_cons_zero, List.set_cons_succ]
        refine tkq 6 (some 75) (v := ?_) rfl (Or.inl ⟨by rfl, ?_⟩) (by assumption) ?_
        rotate_left
        · intro w hSw; (try dsimp only at hSw); go_simp; first | done | (with_reducible rfl)
        simp only [Act.put, List.setIfInBounds_toArray, List.set_cons_zero, List.set_cons_succ]
        refine wpAnyH_ready (rs := [7]) (by kernel_rfl) (by simp) ?_
        refine AllReadyH.cons rfl (fun K hK => ?_) AllReadyH.nil
        refine step_st_any (by rfl) w1.heap.size 30 (hdL .zero .nil) L2 (by rfl) (by rfl) hP10 (by rw [HLL2.out]; rfl) (by rw [HLL2.out]; exact hd_info) hLo2 ?_
        intro w11 hP11 hk11
        have hS11 := hS9.kept hk11 (by omega)
        refine hK.out _ _ (hS11) (fun hHeld => ?_)
        clear hK K
        refine tkq 8 (some 5) (v := ?_) rfl (Or.inl ⟨by rfl, ?_⟩) (by assumption) ?_
        rotate_left
        · intro w hSw; (try dsimp only at hSw); go_simp; first | done | (with_reducible rfl)
        simp only [Act.put, List.setIfInBounds_toArray, List.set_cons_zero, List.set_cons_succ]
        refine tkq 9 (some 6) (v := ?_) rfl (Or.inl ⟨by rfl, ?_⟩) (by assumption) ?_
        rotate_left
        · intro w hSw; (try dsimp only at hSw); go_simp; first | done | (with_reducible rfl)
        simp only [Act.put, List.setIfInBounds_toArray, List.set_cons_zero, List.set_cons_succ]
        refine tkq 10 (some 7) (v := ?_) rfl (Or.inl ⟨by rfl, ?_⟩) (by assumption) ?_
        rotate_left
        · intro w hSw; (try dsimp only at hSw); go_simp; first | done | (with_reducible rfl)
        simp only [Act.put, List.setIfInBounds_toArray, List.set_cons_zero, List.set_cons_succ]
        refine tkq 11 (some 8) (v := ?_) rfl (Or.inl ⟨by rfl, ?_⟩) (by assumption) ?_
        rotate_left
        · intro w hSw; (try dsimp only at hSw); go_simp; first | done | (with_reducible rfl)
        simp only [Act.put, List.setIfInBounds_toArray, List.set_cons_zero, List.set_cons_succ]
        refine wpAnyH_done (by kernel_rfl) ?_ _
        go_wp2_with fail
        refine bodyPost_ret (results_cell_tmp4 4 5 6 7 8 30 (by rfl) _ 30 _ _ _ _ _ _ (by rfl) (by rfl) (by rfl) (by rfl) (by rfl) hP11 Try.underlying30 rfl (by rw [HLL2.out]; exact hd_info)) rfl ?_
        have hQ11 : Kept (fun j => j = w1.heap.size ∨ w3.heap.size ≤ j) w3 w11 := (hQ10.mono (S' := fun j => j = w1.heap.size ∨ w3.heap.size ≤ j) (fun j hj => .inl (.inr hj))).trans (hk11.mono (fun j hj => .inl (.inl hj)))
        have hd11 := hd3.kept hQ11 (fun b hb hh => by have h9 : w2.heap.size ≤ b ∧ b < w3.heap.size := hb; have h7 : b = w1.heap.size ∨ w3.heap.size ≤ b := hh; omega)
        have ho11 := ho10.kept hk11 (fun j hj hh => by have h7 : (some g5 : Option Nat) = some j := hj; injection h7 with h7; have h6 : j = w1.heap.size := hh; omega)
        unfold RRvPost
        rw [HRJ.out, HE'.out]
        exact ⟨⟨d, _, by show _ = Ending.returned (.tuple #[hdV (revHN f m) d, .int .u32 low, .slice (some ⟨g5, 0, none⟩) b c5, .int .i64 e', .bool true]); rw [HVV.out]; rfl, hd11.mono (fun b _ hb => by have h9 : w2.heap.size ≤ b ∧ b < w3.heap.size := hb; show w.heap.size ≤ b; omega), hMwf, ho11.base_ (by omega)⟩, hQ11.below hb4 hb4.size (by intro j hj; omega)⟩
theorem rreveal_any (sk mk : Int) (A : Option Addr) (n c : Nat) (bs : List Int) (w : World) (hr : Rd w w.heap.size A n bs) (hn : n ≤ 1000000) (hnc : n ≤ c) (hcm : c ≤ maxLen) (hA : A = none → c = 0) (k0 : 0 ≤ mk) (k1 : mk < 18446744073709551616) :
    Calls Try.prog 27 #[.agg (kL sk mk).toArray, .slice A n c] w (RRvPost mk bs w) := by
  cases h : parseS bs with
  | none => exact rreveal_no sk mk A n c bs w hr hn hnc hcm hA k0 k1 h
  | some q =>
    obtain ⟨m, tok, a, b⟩ := q
    exact rreveal_yes sk mk A n c bs w hr hn hnc hcm hA k0 k1 m tok a b h
end Go.Proofs.Ytehdilgnlhhjdaa
