/-
  What a packet's bytes say: its bounds; slices.Clone of bytes; packet.unmask.
-/
import Derived.Test.YtehdilgnlhhjdaaJc
namespace Go.Proofs.Ytehdilgnlhhjdaa
set_option linter.unusedVariables false
set_option linter.unusedSimpArgs false
open Go.RowKit Go.ChangeShapes Go.WideShapes Go.Deep
theorem parse_bd (bs : List Int) (m : HN) (tok : List Int) (a b : Int) (hp : parseS bs = some (m, tok, a, b)) :
    1 ≤ a ∧ a + 12 ≤ b ∧ b ≤ bs.length ∧ 0 ≤ m.s ∧ m.s ≤ 2 ∧ tok.length ≤ 32 := by
  have hne : bs ≠ [] := by rintro rfl; rw [parse_nil] at hp; cases hp
  have hl : 1 ≤ bs.length := List.length_pos_iff.2 hne
  have h1 : takeN (bs, false) 1 = (bs.drop 1, false) := by unfold takeN; rw [if_pos (by simp; omega)]; rfl
  have h1l : (takeN (bs, false) 1).1.length = bs.length - 1 := by rw [h1]; simp
  unfold parseS at hp
  simp only at hp
  by_cases hx : byteR (bs, false) / 64 % 2 = 0
  · rw [if_pos hx] at hp; cases hp
  rw [if_neg hx] at hp
  by_cases hy : byteR (bs, false) / 128 = 0
  · rw [if_pos hy] at hp
    split at hp
    case isFalse => cases hp
    case isTrue hc =>
      obtain ⟨c1, c2⟩ := hc
      injection hp with hp
      injection hp with e1 hp
      injection hp with e2 hp
      injection hp with e3 e4
      have h8 : (takeN (takeN (bs, false) 1) 8).1.length = bs.length - 9 ∧ 9 ≤ bs.length := by
        unfold takeN at c1 ⊢
        by_cases h : (0 : Int) ≤ 8 ∧ (8 : Int) ≤ (takeN (bs, false) 1).1.length
        · unfold takeN at h; rw [if_pos h]
          rw [show (if (0 : Int) ≤ 1 ∧ (1 : Int) ≤ ((bs, false) : St).1.length then (((bs, false) : St).1.drop (1 : Int).toNat, ((bs, false) : St).2) else ([], true)) = takeN (bs, false) 1 from rfl] at h ⊢
          rw [List.length_drop]
          have h7 : (8 : Int).toNat = 8 := rfl
          omega
        · unfold takeN at h; rw [if_neg h] at c1; cases c1
      subst e1; subst e2; subst e3; subst e4
      refine ⟨by omega, by omega, by omega, by show (0:Int) ≤ 2; decide, by show (2:Int) ≤ 2; decide, by simp⟩
  rw [if_neg hy] at hp
  unfold htailS at hp
  split at hp
  case isFalse => cases hp
  case isTrue hc =>
    obtain ⟨c1, c2, c3, c4, c5, c6, c7⟩ := hc
    injection hp with hp
    injection hp with e1 hp
    injection hp with e2 hp
    injection hp with e3 e4
    have hd := of_decide_eq_true c1
    obtain ⟨sp, hsp⟩ : ∃ sp, byteR (bs, false) / 16 % 4 = sp := ⟨_, rfl⟩
    have hsp0 : 0 ≤ sp := by rw [← hsp]; exact Int.emod_nonneg _ (by decide)
    rw [hsp] at c4 c5 c6 c7 e1 e2 e3 e4 hd
    have l1 := takeN_le (takeN (bs, false) 1) 4
    have l2 := lgN_le (takeN (takeN (bs, false) 1) 4)
    have l3 := lgN_le (lgN (takeN (takeN (bs, false) 1) 4))
    have l4 := tokN_le (lgN (lgN (takeN (takeN (bs, false) 1) 4))) sp
    have l5 := varN_le (tokN (lgN (lgN (takeN (takeN (bs, false) 1) 4))) sp)
    subst e1; subst e2; subst e3; subst e4
    refine ⟨by omega, by omega, by omega, hsp0, by show sp ≤ 2; omega, c4⟩
theorem turnL_take (bs ms : List Int) (a k j : Nat) : turnL (bs.take j) ms a k = (turnL bs ms a k).take j := by
  apply List.ext_getElem?
  intro i
  unfold turnL
  rcases Nat.lt_or_ge i j with h | h
  · rw [List.getElem?_take_of_lt h, List.getElem?_mapIdx, List.getElem?_mapIdx, List.getElem?_take_of_lt h]
  · rw [List.getElem?_mapIdx, List.getElem?_take_eq_none h, List.getElem?_take_eq_none h]; rfl
theorem turnF_take (bs : List Int) (x : Int) (j : Nat) (hj : 1 ≤ j) : turnF (bs.take j) x = (turnF bs x).take j := by
  unfold turnF
  rw [List.take_set, List.getD_eq_getElem?_getD, List.getD_eq_getElem?_getD, List.getElem?_take_of_lt (by omega)]
theorem turnB_take (bs ms : List Int) (a k : Nat) (x : Int) (j : Nat) (hj : 1 ≤ j) : turnB (bs.take j) ms a k x = (turnB bs ms a k x).take j := by
  unfold turnB; rw [turnF_take _ _ _ hj, turnL_take]
theorem turnB_drop (bs ms : List Int) (a k : Nat) (x : Int) (j : Nat) (hj : 1 ≤ j) (h : a + k ≤ j) : (turnB bs ms a k x).drop j = bs.drop j := by
  apply List.ext_getElem?
  intro i
  rw [List.getElem?_drop, List.getElem?_drop]
  rcases Nat.lt_or_ge (j + i) bs.length with h1 | h1
  · unfold turnB
    rw [turnL_at _ _ _ _ _ (by rw [turnF_len]; exact h1), if_neg (by omega)]
    unfold turnF
    rw [List.getD_eq_getElem?_getD, List.getElem?_set_ne (by omega), List.getElem?_eq_getElem h1]; rfl
  · rw [List.getElem?_eq_none (by rw [turnB_len]; exact h1), List.getElem?_eq_none h1]
set_option maxRecDepth 100000 in
theorem bclone_any (A : Option Addr) (n c : Nat) (bs : List Int) (w : World) (hr : Rd w w.heap.size A n bs) (hn : 0 < n) (hc : n ≤ c) (hcm : c ≤ maxLen) (hl : n ≤ 1000000) :
    Calls Try.prog 67 #[.slice A n c] w fun e w' => ∃ v, e = .returned v ∧ Own w' w.heap.size 5 v bs ∧ Below w.heap.size w w' := by
  obtain ⟨i0, hi, hz0, hz1, hz2⟩ := info_parts u8_info
  have hb0 : Below w.heap.size w (w.alloc (.cells #[] 5 )) := (Below.refl _ _).alloc (Nat.le_refl _) _
  have hrr := hr.below hb0
  obtain ⟨b, off, rfl, _, _⟩ := hr.2.2 hn
  have he := fun W : World => Lib.run_eql_slice_nil (P := Try.prog) W 28 5 (some ⟨b, off, none⟩) n c 0 0 Try.underlying28
  have hc3 := hcm
  unfold maxLen at hc3
  clear hr
  go_enter Try.func67, Try.ntmps67
  go_wp2_with (first | (at_builtin; refine wpList_append_rd (by rfl) (.tmp 5) (.tmp 6) 28 rfl w.heap.size 5 i0 Try.underlying28 hi hz0 hz1 hz2 _ [] rfl (Own.of_block (n := 0) (cap := 0) Byt.nil rfl (heap_alloc_new w _) (Nat.le_refl _) (Nat.le_refl _) (Nat.zero_le _) rfl rfl) _ (some ⟨b, off, none⟩) n c bs rfl hrr (by simp; omega) w hb0 hb0.size ?_; intro v1 w1 ho1 hb1 hg1) | fail)
  have ho1 := ho1.cast (List.nil_append bs)
  go_ret
  exact ⟨_, rfl, ho1, hb1⟩
/-- A slice of bytes, somewhere in the world. -/
structure Sld (w : World) (s : Sl) (bs : List Int) : Prop where
  rd : Rd w w.heap.size s.A s.n bs
  lc : s.n ≤ s.c
  cm : s.c ≤ maxLen
theorem Sld.below {w w' : World} {s : Sl} {bs : List Int} (h : Sld w s bs) (k : Below w.heap.size w w') : Sld w' s bs := ⟨(h.rd.below k).more k.size, h.lc, h.cm⟩
/-- A packet with its mask off, as a value. -/
def plL (m : HN) (d : Sl) (low : Int) (s t : Sl) : List Value := hdL m d ++ [.int .u32 low, .slice s.A s.n s.c, .slice t.A t.n t.c]
def plV (m : HN) (d : Sl) (low : Int) (s t : Sl) : Value := .agg (plL m d low s t).toArray
theorem pl_info : (Try.prog.info? 80).map (·.size) = some 23 := by kernel_rfl
section
variable {ops : Array Oper} {rest : List Oper} {a : Act} {w : World} {Q : Exit → Act → World → Prop} {dst : Option Tmp} {x y : Operand} {t : TypeId} {pos : String} {after : Array Edge} {g : Option (Nat × Bool)}
theorem at_stp (h : wpList Try.prog ops Q (⟨dst, .store 80 x y, t, pos, after, g⟩ :: rest) a w) : wpList Try.prog ops Q (⟨dst, .store 80 x y, t, pos, after, g⟩ :: rest) a w := h
theorem at_ldk (h : wpList Try.prog ops Q (⟨dst, .load 40 x, t, pos, after, g⟩ :: rest) a w) : wpList Try.prog ops Q (⟨dst, .load 40 x, t, pos, after, g⟩ :: rest) a w := h
theorem ld_kt (p : Nat) (l : List Value) (hx : a.eval x = .pointer (some ⟨p, 0, none⟩)) (hA : At w p 40 l) (hl : l.length = 2)
    (h : wpList Try.prog ops Q rest (a.put dst (.agg l.toArray)) w) : wpList Try.prog ops Q (⟨dst, .load 40 x, t, pos, after, none⟩ :: rest) a w :=
  wpList_load_at p _ l _ hx hA Try.underlying40 rfl (by rw [hl]; exact kt_info) h
theorem st_pl (p : Nat) (l l' : List Value) (hx : a.eval x = .pointer (some ⟨p, 0, none⟩)) (hy : a.eval y = .agg l'.toArray) (hA : At w p 80 l) (hl : l.length = 23) (hl' : l'.length = 23)
    (h1 : l'.all (·.oneCell') = true) (h : ∀ w', At w' p 80 l' → Kept (· = p) w w' → wpList Try.prog ops Q rest (a.put dst undef) w') :
    wpList Try.prog ops Q (⟨dst, .store 80 x y, t, pos, after, none⟩ :: rest) a w :=
  wpList_store_at p 80 l l' hx hy hA (by rw [hl, hl']) (by rw [hl']; exact pl_info) h1 h
end
theorem b_and1 (x : Int) (h0 : 0 ≤ x) (h1 : x < 256) : bits BinOp.and IntKind.u8 x 1 = x % 2 := by
  obtain ⟨n, rfl⟩ := Int.eq_ofNat_of_zero_le h0
  rw [u8_and _ _ h0 h1 (by decide) (by decide)]
  show ((n &&& 1 : Nat) : Int) = _
  rw [Nat.and_one_is_mod]; omega
/-- What stays while the first byte is looked at. -/
structure UmS (bk off : Nat) (x0 : Int) (gh : Nat) (L : List Value) (gm : Nat) (z0 : Int) (W : World) : Prop where
  b : W.cell? ⟨bk, off, none⟩ = some (.int .u8 x0)
  h : At W gh 30 L
  m : W.cell? ⟨gm, 0, none⟩ = some (.int .u8 z0)
theorem UmS.below {bk off : Nat} {x0 : Int} {gh : Nat} {L : List Value} {gm : Nat} {z0 : Int} {W W' : World} (h : UmS bk off x0 gh L gm z0 W) (k : Below W.heap.size W W') : UmS bk off x0 gh L gm z0 W' := ⟨cell_below h.b k, h.h.below k h.h.lt, cell_below h.m k⟩
/-- What unmask answers. -/
def UnmPost (mk : Int) (bs : List Int) (w : World) (e : Ending) (w' : World) : Prop :=
  (match revS mk bs with
  | none => e = .returned (.tuple #[plV HN.zero Sl.nil 0 Sl.nil Sl.nil, .int .i64 12])
  | some r => ∃ d s t, e = .returned (.tuple #[plV r.m d r.low s t, .int .i64 0]) ∧ InD w' (fun b => w.heap.size ≤ b) d r.tok ∧ r.m.wf ∧ Sld w' s (r.x.take r.at_) ∧ Sld w' t (r.x.drop r.at_)) ∧ Below w.heap.size w w'
set_option maxRecDepth 100000 in
set_option maxHeartbeats 4000000 in
theorem unmask_no (sk mk : Int) (A : Option Addr) (n c : Nat) (bs : List Int) (w : World) (hr : Rd w w.heap.size A n bs) (hn : n ≤ 1000000) (hnc : n ≤ c) (hcm : c ≤ maxLen) (hA : A = none → c = 0) (k0 : 0 ≤ mk) (k1 : mk < 18446744073709551616) (h : parseS bs = none) :
    Calls Try.prog 38 #[.agg (kL sk mk).toArray, .slice A n c] w (UnmPost mk bs w) := by
  have hc3 := hcm
  unfold maxLen at hc3
  have hK0 : At (w.alloc (.cells (kL sk mk).toArray 40)) w.heap.size 40 (kL sk mk) := At.new w 40 _
  have hb0 : Below w.heap.size w (w.alloc (.cells (kL sk mk).toArray 40)) := (Below.refl _ _).alloc (Nat.le_refl _) _
  obtain ⟨K, hK⟩ : ∃ K, kL sk mk = K := ⟨_, rfl⟩
  have hKl : K.length = 2 := by rw [← hK]; rfl
  rw [hK] at hK0 hb0 ⊢
  obtain ⟨w1, hw1⟩ : ∃ x, w.alloc (.cells K.toArray 40) = x := ⟨_, rfl⟩
  rw [hw1] at hK0 hb0
  have hP0 : At (w1.alloc (.cells #[.int .i64 0, .int .u8 0, .int .u8 0, .int .u8 0, .int .u8 0, .int .u8 0, .int .u8 0, .int .u8 0, .int .u8 0, .int .u8 0, .int .u8 0, .int .u8 0, .int .u8 0, .int .u8 0, .int .u8 0, .int .u8 0, .int .u8 0, .slice none 0 0, .int .i64 0, .bool false, .int .u32 0, .slice none 0 0, .slice none 0 0] 80)) w1.heap.size 80 (plL .zero .nil 0 .nil .nil) := At.new w1 80 (plL .zero .nil 0 .nil .nil)
  have hK1 := hK0.alloc (.cells #[.int .i64 0, .int .u8 0, .int .u8 0, .int .u8 0, .int .u8 0, .int .u8 0, .int .u8 0, .int .u8 0, .int .u8 0, .int .u8 0, .int .u8 0, .int .u8 0, .int .u8 0, .int .u8 0, .int .u8 0, .int .u8 0, .int .u8 0, .slice none 0 0, .int .i64 0, .bool false, .int .u32 0, .slice none 0 0, .slice none 0 0] 80)
  have hb1 := hb0.alloc hb0.size (.cells #[.int .i64 0, .int .u8 0, .int .u8 0, .int .u8 0, .int .u8 0, .int .u8 0, .int .u8 0, .int .u8 0, .int .u8 0, .int .u8 0, .int .u8 0, .int .u8 0, .int .u8 0, .int .u8 0, .int .u8 0, .int .u8 0, .int .u8 0, .slice none 0 0, .int .i64 0, .bool false, .int .u32 0, .slice none 0 0, .slice none 0 0] 80)
  have hlt0 := hK0.lt
  obtain ⟨w2, hw2⟩ : ∃ x, w1.alloc (.cells #[.int .i64 0, .int .u8 0, .int .u8 0, .int .u8 0, .int .u8 0, .int .u8 0, .int .u8 0, .int .u8 0, .int .u8 0, .int .u8 0, .int .u8 0, .int .u8 0, .int .u8 0, .int .u8 0, .int .u8 0, .int .u8 0, .int .u8 0, .slice none 0 0, .int .i64 0, .bool false, .int .u32 0, .slice none 0 0, .slice none 0 0] 80) = x := ⟨_, rfl⟩
  rw [hw2] at hP0 hK1 hb1
  have hr2 := (hr.below hb1).more hb1.size
  have hlt2 := hP0.lt
  have HKL := Lib.hid hKl
  have hpa := hparse_any A n c bs w2 hr2 hn hA
  unfold HPPost at hpa
  rw [h] at hpa
  have hrev : revS mk bs = none := by unfold revS; rw [h]
  have HPA := Lib.hid hpa
  clear hpa h
  go_enter Try.func38, Try.ntmps38
  go_wp2_with fail
  refine HPA.out.mono ?_
  rintro e w3 ⟨rfl, hb3⟩
  have hA3 : At (w3.alloc (.cells #[.int .i64 0, .int .u8 0, .int .u8 0, .int .u8 0, .int .u8 0, .int .u8 0, .int .u8 0, .int .u8 0, .int .u8 0, .int .u8 0, .int .u8 0, .int .u8 0, .int .u8 0, .int .u8 0, .int .u8 0, .int .u8 0, .int .u8 0, .slice none 0 0, .int .i64 0, .bool false] 30)) w3.heap.size 30 (hdL .zero .nil) := At.new w3 30 (hdL .zero .nil)
  have hP3 := (hP0.below hb3 hP0.lt).alloc (.cells #[.int .i64 0, .int .u8 0, .int .u8 0, .int .u8 0, .int .u8 0, .int .u8 0, .int .u8 0, .int .u8 0, .int .u8 0, .int .u8 0, .int .u8 0, .int .u8 0, .int .u8 0, .int .u8 0, .int .u8 0, .int .u8 0, .int .u8 0, .slice none 0 0, .int .i64 0, .bool false] 30)
  have hb4 := (hb1.trans (hb3.mono hb1.size)).alloc (by have := hb1.size; have := hb3.size; omega) (.cells #[.int .i64 0, .int .u8 0, .int .u8 0, .int .u8 0, .int .u8 0, .int .u8 0, .int .u8 0, .int .u8 0, .int .u8 0, .int .u8 0, .int .u8 0, .int .u8 0, .int .u8 0, .int .u8 0, .int .u8 0, .int .u8 0, .int .u8 0, .slice none 0 0, .int .i64 0, .bool false] 30)
  have hle3 := hb3.size
  have hvv : hdV HN.zero Sl.nil = .agg (hdL HN.zero Sl.nil).toArray := rfl
  rw [hvv]
  obtain ⟨L0, hL0⟩ : ∃ L, hdL HN.zero Sl.nil = L := ⟨_, rfl⟩
  have hL0l : L0.length = 20 := by rw [← hL0]; rfl
  have hL0o : L0.all (·.oneCell') = true := by rw [← hL0]; kernel_rfl
  rw [hL0] at hA3 ⊢
  go_wp2_with (first | ((with_reducible refine at_sth ?_); refine st_hd w3.heap.size L0 L0 (by rfl) (by rfl) hA3 hL0l hL0l hL0o ?_; intro w4 hA4 hk4) | ((with_reducible refine at_stp ?_); refine st_pl w1.heap.size (plL .zero .nil 0 .nil .nil) (plL .zero .nil 0 .nil .nil) (by rfl) (by rfl) (hP3.kept hk4 (by omega)) rfl rfl (by kernel_rfl) ?_; intro w5 hP5 hk5) | fail)
  have hb5 := hk4.below hb4 hb4.size (by intro j hj; subst hj; omega)
  have hb6 := hk5.below hb5 hb5.size (by intro j hj; subst hj; omega)
  refine bodyPost_ret (results_cell_tmp 4 5 80 (by rfl) _ 80 _ _ _ (by rfl) (by rfl) hP5 Try.underlying80 rfl pl_info) rfl ?_
  unfold UnmPost
  rw [hrev]
  exact ⟨rfl, hb6⟩
set_option maxRecDepth 100000 in
set_option maxHeartbeats 8000000 in
theorem unmask_yes (sk mk : Int) (A : Option Addr) (n c : Nat) (bs : List Int) (w : World) (hr : Rd w w.heap.size A n bs) (hn : n ≤ 1000000) (hnc : n ≤ c) (hcm : c ≤ maxLen) (hA : A = none → c = 0) (k0 : 0 ≤ mk) (k1 : mk < 18446744073709551616) (m : HN) (tok : List Int) (a_ b_ : Int) (h : parseS bs = some (m, tok, a_, b_)) :
    Calls Try.prog 38 #[.agg (kL sk mk).toArray, .slice A n c] w (UnmPost mk bs w) := by
  obtain ⟨p1, p2, p3, p4, p5, p6⟩ := parse_bd bs m tok a_ b_ h
  obtain ⟨a, rfl⟩ : ∃ a : Nat, a_ = a := ⟨a_.toNat, by omega⟩
  obtain ⟨b, rfl⟩ : ∃ b : Nat, b_ = b := ⟨b_.toNat, by omega⟩
  have hrl := hr.1
  have hby := hr.2.1
  have hc3 := hcm
  unfold maxLen at hc3
  have hK0 : At (w.alloc (.cells (kL sk mk).toArray 40)) w.heap.size 40 (kL sk mk) := At.new w 40 _
  have hb0 : Below w.heap.size w (w.alloc (.cells (kL sk mk).toArray 40)) := (Below.refl _ _).alloc (Nat.le_refl _) _
  have hmk := Lib.hid (fun W A c (hA : Rd W W.heap.size A n bs) (h1 : n ≤ c) (h2 : c ≤ maxLen) => maskof_any sk mk A n c a bs W hA h1 h2 (by omega) k0 k1)
  obtain ⟨K, hK⟩ : ∃ K, kL sk mk = K := ⟨_, rfl⟩
  have hKl : K.length = 2 := by rw [← hK]; rfl
  rw [hK] at hK0 hb0 ⊢
  rw [hK] at hmk
  obtain ⟨w1, hw1⟩ : ∃ x, w.alloc (.cells K.toArray 40) = x := ⟨_, rfl⟩
  rw [hw1] at hK0 hb0
  have hP0 : At (w1.alloc (.cells #[.int .i64 0, .int .u8 0, .int .u8 0, .int .u8 0, .int .u8 0, .int .u8 0, .int .u8 0, .int .u8 0, .int .u8 0, .int .u8 0, .int .u8 0, .int .u8 0, .int .u8 0, .int .u8 0, .int .u8 0, .int .u8 0, .int .u8 0, .slice none 0 0, .int .i64 0, .bool false, .int .u32 0, .slice none 0 0, .slice none 0 0] 80)) w1.heap.size 80 (plL .zero .nil 0 .nil .nil) := At.new w1 80 (plL .zero .nil 0 .nil .nil)
  have hK1 := hK0.alloc (.cells #[.int .i64 0, .int .u8 0, .int .u8 0, .int .u8 0, .int .u8 0, .int .u8 0, .int .u8 0, .int .u8 0, .int .u8 0, .int .u8 0, .int .u8 0, .int .u8 0, .int .u8 0, .int .u8 0, .int .u8 0, .int .u8 0, .int .u8 0, .slice none 0 0, .int .i64 0, .bool false, .int .u32 0, .slice none 0 0, .slice none 0 0] 80)
  have hb1 := hb0.alloc hb0.size (.cells #[.int .i64 0, .int .u8 0, .int .u8 0, .int .u8 0, .int .u8 0, .int .u8 0, .int .u8 0, .int .u8 0, .int .u8 0, .int .u8 0, .int .u8 0, .int .u8 0, .int .u8 0, .int .u8 0, .int .u8 0, .int .u8 0, .int .u8 0, .slice none 0 0, .int .i64 0, .bool false, .int .u32 0, .slice none 0 0, .slice none 0 0] 80)
  have hlt0 := hK0.lt
  obtain ⟨w2, hw2⟩ : ∃ x, w1.alloc (.cells #[.int .i64 0, .int .u8 0, .int .u8 0, .int .u8 0, .int .u8 0, .int .u8 0, .int .u8 0, .int .u8 0, .int .u8 0, .int .u8 0, .int .u8 0, .int .u8 0, .int .u8 0, .int .u8 0, .int .u8 0, .int .u8 0, .int .u8 0, .slice none 0 0, .int .i64 0, .bool false, .int .u32 0, .slice none 0 0, .slice none 0 0] 80) = x := ⟨_, rfl⟩
  rw [hw2] at hP0 hK1 hb1
  have hr2 := (hr.below hb1).more hb1.size
  have hlt2 := hP0.lt
  have HKL := Lib.hid hKl
  have hpa := hparse_any A n c bs w2 hr2 hn hA
  unfold HPPost at hpa
  rw [h] at hpa
  have hrev : revS mk bs = some ⟨revHN (firstU mk bs m a) m, tok, lowS3 (((turnB (bs.take b) (maskS mk (samS bs a)) a (firstU mk bs m a % 4 + 1).toNat (mbits m.s)).drop a).take (firstU mk bs m a % 4 + 1).toNat), turnB (bs.take b) (maskS mk (samS bs a)) a (firstU mk bs m a % 4 + 1).toNat (mbits m.s), a + (firstU mk bs m a % 4 + 1).toNat, b⟩ := by
    unfold revS; rw [h]; rfl
  have hML : (maskS mk (samS bs a)).length = 5 := rfl
  have hMB : Byt (maskS mk (samS bs a)) := (b8_byt _).take 5
  have hfu : firstU mk bs m a = xorB (bs.getD 0 0) (andB ((maskS mk (samS bs a)).getD 0 0) (mbits m.s)) := rfl
  obtain ⟨ms, hms⟩ : ∃ x, maskS mk (samS bs a) = x := ⟨_, rfl⟩
  rw [hms] at hML hMB hmk hrev hfu
  obtain ⟨f, hf⟩ : ∃ f, firstU mk bs m a = f := ⟨_, rfl⟩
  rw [hf] at hrev hfu
  have hfb : 0 ≤ f ∧ f < 256 := by rw [hfu]; exact xorB_bd _ _
  obtain ⟨k, hk⟩ : ∃ k : Nat, (f % 4 + 1).toNat = k := ⟨_, rfl⟩
  have hkI : f % 4 + 1 = (k : Int) := by omega
  have hk1 : 1 ≤ k ∧ k ≤ 4 := by omega
  rw [hk] at hrev
  have HPA := Lib.hid hpa
  have HREV := Lib.hid hrev
  have hrw := hr.below hb1
  obtain ⟨bk, off, rfl, hbk, hcl⟩ := hrw.2.2 (by omega)
  have HRR := Lib.hid (RdP.of_rd hrw hb1.size)
  clear hrw
  obtain ⟨x0, hx0⟩ : ∃ x, bs.getD 0 0 = x := ⟨_, rfl⟩
  have hc0 := hcl 0 (by omega)
  rw [hx0, Nat.add_zero] at hc0
  rw [hx0] at hfu
  have hx0b : 0 ≤ x0 ∧ x0 < 256 := by rw [← hx0]; exact hby.getD 0
  obtain ⟨z0, hz0⟩ : ∃ z, ms.getD 0 0 = z := ⟨_, rfl⟩
  rw [hz0] at hfu
  have hz0b : 0 ≤ z0 ∧ z0 < 256 := by rw [← hz0]; exact hMB.getD 0
  have HZ0 := Lib.hid hz0
  obtain ⟨B, hB⟩ : ∃ b, mbits m.s = b := ⟨_, rfl⟩
  rw [hB] at hfu
  have HFU := Lib.hid (show bits BinOp.xor IntKind.u8 x0 (bits BinOp.and IntKind.u8 z0 B) = f from hfu.symm)
  have HB := Lib.hid hB
  clear hpa hrev hcl hx0 hz0 hB hfu hms hr hr2
  go_enter Try.func38, Try.ntmps38
  go_wp2_with fail
  refine HPA.out.mono ?_
  rintro e w3 ⟨⟨d, rfl, hd, hwf⟩, hb3⟩
  obtain ⟨w3', hw3'⟩ : ∃ x, w3.alloc (.cells #[.int .i64 0, .int .u8 0, .int .u8 0, .int .u8 0, .int .u8 0, .int .u8 0, .int .u8 0, .int .u8 0, .int .u8 0, .int .u8 0, .int .u8 0, .int .u8 0, .int .u8 0, .int .u8 0, .int .u8 0, .int .u8 0, .int .u8 0, .slice none 0 0, .int .i64 0, .bool false] 30) = x := ⟨_, rfl⟩
  have hA3 : At (w3.alloc (.cells #[.int .i64 0, .int .u8 0, .int .u8 0, .int .u8 0, .int .u8 0, .int .u8 0, .int .u8 0, .int .u8 0, .int .u8 0, .int .u8 0, .int .u8 0, .int .u8 0, .int .u8 0, .int .u8 0, .int .u8 0, .int .u8 0, .int .u8 0, .slice none 0 0, .int .i64 0, .bool false] 30)) w3.heap.size 30 (hdL .zero .nil) := At.new w3 30 (hdL .zero .nil)
  have hQ3 : Kept (fun j => w3.heap.size ≤ j) w3 (w3.alloc (.cells #[.int .i64 0, .int .u8 0, .int .u8 0, .int .u8 0, .int .u8 0, .int .u8 0, .int .u8 0, .int .u8 0, .int .u8 0, .int .u8 0, .int .u8 0, .int .u8 0, .int .u8 0, .int .u8 0, .int .u8 0, .int .u8 0, .int .u8 0, .slice none 0 0, .int .i64 0, .bool false] 30)) := (Kept.refl _ _).alloc _
  rw [hw3'] at hA3 hQ3
  have hle3 := hb3.size
  have hle1 := hb1.size
  have hP3 := hP0.below hb3 hP0.lt
  have hK3 := hK1.below hb3 hK1.lt
  have hR3 := HRR.out.kept (Kept.of_below hb3 (fun _ => False)) (fun _ _ x => x)
  have hcx3 := cell_below hc0 hb3
  have hd3 := hd.mono (P' := fun b => w2.heap.size ≤ b ∧ b < w3.heap.size) (fun b h1 h2 => ⟨h2, h1⟩)
  have hb4 := hb1.trans (hb3.mono hb1.size)
  have hvv : hdV m d = .agg (hdL m d).toArray := rfl
  rw [hvv]
  have HMK := Lib.hid (fun W => masked_any m d W hwf)
  rw [hvv, HB.out] at HMK
  have hset : ((hdL m d).set 18 (.int .i64 (k : Int))).set 19 (.bool (decide (m.s = 2) && decide (f / 4 % 2 = 1))) = hdL (revHN f m) d := by unfold revHN; rw [hkI]; rfl
  have hset1 : (hdL m d).set 18 (.int .i64 (k : Int)) = hdL { m with w := (k : Int) } d := rfl
  have hcs : (hdL m d)[0]? = some (.int .i64 m.s) := rfl
  have hcw : (hdL m d)[18]? = some (.int .i64 m.w) := rfl
  have hcp : (hdL m d)[19]? = some (.bool m.ph) := rfl
  have hLo : (hdL m d).all (·.oneCell') = true := rfl
  obtain ⟨L, hL⟩ : ∃ L, hdL m d = L := ⟨_, rfl⟩
  have hLl : L.length = 20 := by rw [← hL]; rfl
  rw [hL] at hset hset1 hcs hcw hcp hLo HMK ⊢
  have HSET := Lib.hid hset
  have HCS := Lib.hid hcs
  have HCW := Lib.hid hcw
  have HCP := Lib.hid hcp
  have HLL := Lib.hid hLl
  clear hset hcs hcw hcp hLl hvv hL hd hP0 hK1 hc0 hset1
  go_wp2_with (first | ((with_reducible refine at_sth ?_); refine st_hd w3.heap.size (hdL .zero .nil) L (by rfl) (by rfl) hA3 rfl HLL.out hLo ?_; intro w4 hA4 hk4; have hQ4 := hQ3.trans (hk4.mono (fun j hj => .inl (by omega)))) | ((with_reducible refine at_ldk ?_); refine ld_kt w.heap.size K (by rfl) ((hQ4.block _ hK3.lt (by omega)).trans hK3) HKL.out ?_) | fail)
  refine (hmk.out w4 (some ⟨bk, off, none⟩) c ((hR3.kept hQ4 (fun b hb => by omega)).1) hnc hcm).mono ?_
  rintro e w5 ⟨rfl, hb5⟩
  have hA5 := hA4.below hb5 hA4.lt
  have hQ5 := hQ4.trans (Kept.of_below hb5 _)
  have hle4 := hQ4.size
  have hle5 := hQ5.size
  have hm5 : At (w5.alloc (.cells #[.int .u8 0, .int .u8 0, .int .u8 0, .int .u8 0, .int .u8 0] 77)) w5.heap.size 77 z5L := At.new w5 77 _
  have hA5 := hA5.alloc (.cells #[.int .u8 0, .int .u8 0, .int .u8 0, .int .u8 0, .int .u8 0] 77)
  have hQ5 := hQ5.alloc (.cells #[.int .u8 0, .int .u8 0, .int .u8 0, .int .u8 0, .int .u8 0] 77)
  have hl5 := hA5.lt
  have hlh : w3.heap.size < w5.heap.size := by have := hA4.lt; have := hb5.size; omega
  go_wp2_with (first | ((with_reducible refine at_st5 ?_); refine wpList_store_at w5.heap.size 77 z5L (ms.map (Value.int .u8)) (by rfl) (by rfl) hm5 (by rw [List.length_map, hML]; rfl) (by rw [List.length_map, hML]; exact a5_info) (List.all_eq_true.2 (oneCell_u8 _)) ?_; intro w6 hm6 hk6) | fail)
  have hA6 := hA5.kept hk6 (by omega)
  have hQ6 := hQ5.trans (hk6.mono (fun j hj => .inl (by omega)))
  clear hm5 hA5 hQ5 hk6 hA4 hQ4 hk4 hQ3 hA3 hb5
  have hcb6 := (show w6.cell? ⟨bk, off, none⟩ = some (.int .u8 x0) by rw [hQ6.cell (p := ⟨bk, off, none⟩) (cell_lt hcx3) (by show ¬ (w3.heap.size ≤ bk); omega)]; exact hcx3)
  have hcm6 := (show w6.cell? ⟨w5.heap.size, 0, none⟩ = some (.int .u8 z0) by rw [hm6.cell 0, List.getElem?_map, List.getElem?_eq_getElem (by omega), ← HZ0.out, List.getD_eq_getElem?_getD, List.getElem?_eq_getElem (by omega)]; rfl)
  have hfu2 := HFU.out
  have hS6 : UmS bk off x0 w3.heap.size L w5.heap.size z0 w6 := ⟨hcb6, hA6, hcm6⟩
  have hm6 := hm6.drew
  have hQ6 := hQ6.drew
  have hS6 : UmS bk off x0 w3.heap.size L w5.heap.size z0 w6.drew := ⟨hcb6, hA6, hcm6⟩
  obtain ⟨Y, hY⟩ : ∃ x, w6.drew = x := ⟨_, rfl⟩
  rw [hY] at hS6 hm6 hQ6
  clear hcb6 hcm6 hA6
  refine wp_region_held_drew (S := (UmS bk off x0 w3.heap.size L w5.heap.size z0)) (by kernel_rfl) (by rw [hY]; exact hS6) (fun hHeld => ?_)
  rw [hY] at hHeld ⊢
  clear hY
  refine tkq 0 (some 29) (v := ?_) rfl (Or.inl ⟨by rfl, ?_⟩) (by assumption) ?_
  rotate_left
  · intro w hSw; (try dsimp only at hSw); go_simp; first | done | (with_reducible rfl)
  simp only [Act.put, List.setIfInBounds_toArray, List.set_cons_zero, List.set_cons_succ]
  refine tkq 1 (some 30) (v := ?_) rfl (Or.inl ⟨by rfl, ?_⟩) (by assumption) ?_
  rotate_left
  · intro w hSw; (try dsimp only at hSw); have h1 := hSw.b; have h2 := hSw.m; have hc' : 0 < c := (by omega); have hn' : 0 < n := (by omega); go_simp; first | done | (with_reducible rfl)
  simp only [Act.put, List.setIfInBounds_toArray, List.set_cons_zero, List.set_cons_succ]
  refine tkq 2 (some 31) (v := ?_) rfl (Or.inl ⟨by rfl, ?_⟩) (by assumption) ?_
  rotate_left
  · intro w hSw; (try dsimp only at hSw); have h1 := hSw.b; have h2 := hSw.m; have hc' : 0 < c := (by omega); have hn' : 0 < n := (by omega); go_simp; first | done | (with_reducible rfl)
  simp only [Act.put, List.setIfInBounds_toArray, List.set_cons_zero, List.set_cons_succ]
  refine tkq 3 (some 32) (v := ?_) rfl (Or.inl ⟨by rfl, ?_⟩) (by assumption) ?_
  rotate_left
  · intro w hSw; (try dsimp only at hSw); have h1 := hSw.b; have h2 := hSw.m; have hc' : 0 < c := (by omega); have hn' : 0 < n := (by omega); go_simp; first | done | (with_reducible rfl)
  simp only [Act.put, List.setIfInBounds_toArray, List.set_cons_zero, List.set_cons_succ]
  refine tkq 4 (some 33) (v := ?_) rfl (Or.inl ⟨by rfl, ?_⟩) (by assumption) ?_
  rotate_left
  · intro w hSw; (try dsimp only at hSw); have h1 := hSw.b; have h2 := hSw.m; have hc' : 0 < c := (by omega); have hn' : 0 < n := (by omega); go_simp; first | done | (with_reducible rfl)
  simp only [Act.put, List.setIfInBounds_toArray, List.set_cons_zero, List.set_cons_succ]
  refine tkq 5 (some 34) (v := ?_) rfl ?_ (by assumption) ?_
  rotate_left
  · refine yl_any 30 (.tmp 6) ?_ w3.heap.size 0 ?_ L _ ?_ Try.underlying30 rfl ?_ ?_
    · rfl
    · rfl
    · intro w hSw; exact hSw.h.rangeAt
    · rw [HLL.out]; exact hd_info
    · rfl
  simp only [Act.put, List.setIfInBounds_toArray, List.set_cons_zero, List.set_cons_succ]
  refine wpAnyH_ready (rs := [6]) (by kernel_rfl) (by simp) ?_
  refine AllReadyH.cons rfl (fun K hK => ?_) AllReadyH.nil
  go_simp
  go_wp2_with (go_at_call 65; refine (HMK.out _).mono ?_; rintro e W7 ⟨rfl, hb7⟩)
  have hS7 := hS6.below hb7
  have hm7 := hm6.below hb7 hm6.lt
  have hQ7 := hQ6.trans (Kept.of_below hb7 _)
  refine hK.out _ _ (hS7) (fun hHeld => ?_)
  clear hK K
  refine tkq 7 (some 36) (v := ?_) rfl (Or.inl ⟨by rfl, ?_⟩) (by assumption) ?_
  rotate_left
  · intro w hSw; (try dsimp only at hSw); go_simp; first | done | (with_reducible rfl)
  simp only [Act.put, List.setIfInBounds_toArray, List.set_cons_zero, List.set_cons_succ]
  refine tkq 8 (some 37) (v := ?_) rfl (Or.inl ⟨by rfl, ?_⟩) (by assumption) ?_
  rotate_left
  · intro w hSw; (try dsimp only at hSw); go_simp; first | done | (with_reducible rfl)
  simp only [Act.put, List.setIfInBounds_toArray, List.set_cons_zero, List.set_cons_succ]
  refine tkq 9 (some 11) (v := ?_) rfl (Or.inl ⟨by rfl, ?_⟩) (by assumption) ?_
  rotate_left
  · intro w hSw; (try dsimp only at hSw); go_simp; first | done | (with_reducible rfl)
  simp only [Act.put, List.setIfInBounds_toArray, List.set_cons_zero, List.set_cons_succ]
  refine wpAnyH_done (by kernel_rfl) ?_ _
  have hS7h := hS7.h
  clear hS6 hm6 hQ6 hb7 hS7 hHeld hfu2
  have hand3 := b_and3 f hfb.1 hfb.2
  have hcw7 := (show W7.cell? ⟨w3.heap.size, 18, none⟩ = some (.int .i64 m.w) by rw [hS7h.cell 18, HCW.out])
  have hfz7 := hS7h.frozen 18
  have hkW : IntKind.i64.wrap (f % 4 + 1) = (k : Int) := by rw [hkI]; exact IntWalk.i64_in _ (by omega)
  obtain ⟨W8, hW8⟩ : ∃ x, W7.setCell ⟨w3.heap.size, 18, none⟩ (.int .i64 (k : Int)) = x := ⟨_, rfl⟩
  have hh8 := hS7h.set 18 (.int .i64 (k : Int))
  have hm8 := hm7.set_other (q := ⟨w3.heap.size, 18, none⟩) (by show w3.heap.size ≠ w5.heap.size; omega) (.int .i64 (k : Int))
  have hQ8 := hQ7.setCell (p := ⟨w3.heap.size, 18, none⟩) (.inl (Nat.le_refl _)) (.int .i64 (k : Int))
  rw [hW8] at hh8 hm8 hQ8
  clear hm7 hQ7
  have hc08 := (show W8.cell? ⟨w3.heap.size, 0, none⟩ = some (.int .i64 m.s) by rw [hh8.cell 0, List.getElem?_set_ne (by decide), HCS.out])
  have hc98 := (show W8.cell? ⟨w3.heap.size, 19, none⟩ = some (.bool m.ph) by rw [hh8.cell 19, List.getElem?_set_ne (by decide), HCP.out])
  have hfz8 := hh8.frozen 19
  have hs8 := hQ8.size
  have hq1 := b_and1 (f / 4) (by omega) (by omega)
  have hqs : ∃ q, (decide (m.s = 2) && decide (f / 4 % 2 = 1)) = q := ⟨_, rfl⟩
  obtain ⟨q, hq⟩ := hqs
  rw [hq] at HSET
  have hh9 := hh8.set 19 (.bool q)
  rw [HSET.out] at hh9
  have hm9 := hm8.set_other (q := ⟨w3.heap.size, 19, none⟩) (by show w3.heap.size ≠ w5.heap.size; omega) (.bool q)
  have hQ9 := hQ8.setCell (p := ⟨w3.heap.size, 19, none⟩) (.inl (Nat.le_refl _)) (.bool q)
  obtain ⟨W9, hW9⟩ : ∃ x, W8.setCell ⟨w3.heap.size, 19, none⟩ (.bool q) = x := ⟨_, rfl⟩
  rw [hW9] at hh9 hm9 hQ9
  have hcw9 := (show W9.cell? ⟨w3.heap.size, 18, none⟩ = some (.int .i64 (k : Int)) by rw [hh9.cell 18]; unfold revHN; rw [hkI]; rfl)
  have HP9 := Lib.hid (And.intro hh9 (And.intro hm9 hQ9))
  clear hh8 hm8 hQ8 hh9 hm9 hQ9 hS7h
  obtain ⟨e', he'⟩ : ∃ e, a + k = e := ⟨_, rfl⟩
  have heI : (a : Int) + (k : Int) = (e' : Int) := by omega
  by_cases h2 : m.s = 2
  · have hg : decide (m.s = 2) = true := decide_eq_true h2
    have hqd : decide (f / 4 % 2 = 1) = q := by rw [hg] at hq; simpa using hq
    have hq9 : (f / 4 % 2 == 1) = q := by rw [← hqd]; by_cases hx : f / 4 % 2 = 1 <;> simp [hx]
    clear hqd
    have HQ := Lib.hid hq
    clear hq
    go_wp2_with fail
    have hR9 := hR3.kept HP9.out.2.2 (fun b hb => by omega)
    refine (bclone_any (some ⟨bk, off, none⟩) e' c (bs.take e') W9 (hR9.cutTo (m := e') (by omega)).1 (by omega) (by omega) hcm (by omega)).mono ?_
    rintro e w10 ⟨v10, rfl, ho10, hb10⟩
    have hh10 := HP9.out.1.below hb10 HP9.out.1.lt
    have hm10 := HP9.out.2.1.below hb10 HP9.out.2.1.lt
    have hQ10 := HP9.out.2.2.trans (Kept.of_below hb10 _)
    have hs9 := HP9.out.2.2.size
    have hs10 := hQ10.size
    have hlh9 := HP9.out.1.lt
    have hlm9 := HP9.out.2.1.lt
    have hel : (bs.take e').length = e' := by rw [List.length_take]; omega
    obtain ⟨g10, c10, _, rfl, _, _, _, _, x1, x2⟩ := ho10.place (by omega)
    rw [hel] at ho10 x1 ⊢
    have HEL := Lib.hid hel
    have hg10 := (ho10.block_lt g10 rfl)
    clear HP9 hR9 hb10 hel
    obtain ⟨M, hM⟩ : ∃ M, revHN f m = M := ⟨_, rfl⟩
    have hMw : M.w = (k : Int) := by rw [← hM, ← hkI]; rfl
    have hMs : M.s = m.s := by rw [← hM]; rfl
    have hMwf : M.wf := by
      rw [← hM]
      exact ⟨hwf.s0, hwf.s1, by show -9223372036854775808 ≤ f % 4 + 1; omega, by show f % 4 + 1 ≤ 9223372036854775807; omega, hwf.tb, hwf.fb⟩
    rw [hM] at hh10 HSET
    have HREVM := Lib.hid (show revHN f m = M from hM)
    have hTU := turn_any (g := g10) W9.heap.size e' c10 a (bs.take e') ms M d w10 ho10 HEL.out (by omega) (by omega) (by omega) hML hMB hMwf (by omega) (by omega) x1 x2
    have hvM : hdV M d = .agg (hdL M d).toArray := rfl
    rw [hvM] at hTU
    have hxs : bs.take e' = (bs.take b).take e' := by rw [List.take_take, Nat.min_eq_left (by omega)]
    rw [show M.w.toNat = k by omega, hMs, hxs, turnB_take _ _ _ _ _ _ (by omega)] at hTU
    have hXd : (turnB (bs.take b) ms a k (mbits m.s)).drop e' = (bs.take b).drop e' := turnB_drop _ _ _ _ _ _ (by omega) (by omega)
    have hXl : (turnB (bs.take b) ms a k (mbits m.s)).length = b := by rw [turnB_len, List.length_take]; omega
    have hrevX := HREV.out
    rw [hM, he'] at hrevX
    obtain ⟨X, hX⟩ : ∃ X, turnB (bs.take b) ms a k (mbits m.s) = X := ⟨_, rfl⟩
    rw [hX] at hTU hXd hXl hrevX
    have HTU := Lib.hid hTU
    have HXD := Lib.hid hXd
    have HXL := Lib.hid hXl
    have HRX := Lib.hid hrevX
    obtain ⟨L2, hL2⟩ : ∃ L, hdL M d = L := ⟨_, rfl⟩
    have hl2 : L2.length = 20 := by rw [← hL2]; rfl
    rw [hL2] at hh10 HTU HSET
    have HL2 := Lib.hid hL2
    have HLL2 := Lib.hid hl2
    clear hTU hXd hXl hrevX hX hM hMw hMs hxs hL2 hl2 hvM
    go_wp2_with (first | ((with_reducible refine at_ldh ?_); refine ld_hd w3.heap.size L2 (by rfl) hh10 HLL2.out ?_) | ((with_reducible refine at_ld5 ?_); refine wpList_load_at w5.heap.size 77 (ms.map (Value.int .u8)) _ (by rfl) hm10 Try.underlying77 rfl (by rw [List.length_map, hML]; exact a5_info) ?_) | fail)
    refine HTU.out.mono ?_
    rintro e w11 ⟨rfl, ho11, hk11⟩
    have hh11 := hh10.kept hk11 (by omega)
    have hQ11 := hQ10.trans' hk11 (fun j hj => .inl (by omega))
    have hs11 := hQ11.size
    have hxt : (X.take e').length = e' := by rw [List.length_take, HXL.out]; omega
    obtain ⟨A11, c11, hv11, _, _, hrd11⟩ := ho11.open_n e' hxt
    injection hv11 with hv11 _ hv11c
    subst hv11; subst hv11c
    have hN1 := hrd11.cutFrom (c := c10) (k := a) (by omega) x1
    have ecut : cutA (some ⟨g10, 0, none⟩) c10 a = some ⟨g10, 0 + a, none⟩ := by unfold cutA; rw [if_neg (by omega), Option.map_some, addr_add]
    rw [ecut, show e' - a = k by omega, List.drop_take, show e' - a = k by omega, Nat.zero_add] at hN1
    have hnum := numberof_any (some ⟨g10, a, none⟩) k (c10 - a) ((X.drop a).take k) w11.drew _ hN1.drew (by omega) (by unfold maxLen at x2 ⊢; omega)
    obtain ⟨low, hlow⟩ : ∃ l, lowS3 ((X.drop a).take k) = l := ⟨_, rfl⟩
    rw [hlow] at hnum
    have HNU := Lib.hid hnum
    have HLO := Lib.hid hlow
    have hR11 := hR3.kept hQ11 (fun b hb => by omega)
    have hca : a ≤ c10 := by omega
    have hcna : ¬ c10 = a := by omega
    have hae : (a : Int) ≤ (e' : Int) := by omega
    have hae2 : a ≤ e' := by omega
    have hebI : (e' : Int) ≤ (b : Int) := by omega
    have heb2 : e' ≤ b := by omega
    have hbc : b ≤ c := by omega
    have hbcI : (b : Int) ≤ (c : Int) := by omega
    have hce : ¬ c = e' := by omega
    have heka : e' - a = k := by omega
    clear hnum hlow hN1 ecut
    go_wp2_with fail
    have hh12 := hh11.drew
    have hQ12 := hQ11.drew
    have ho12 := ho11.drew
    obtain ⟨Y2, hY2⟩ : ∃ x, w11.drew = x := ⟨_, rfl⟩
    have HNU2 := HNU.out
    rw [hY2] at hh12 hQ12 ho12 HNU2
    refine wp_region_held_drew (S := (fun W => At W w3.heap.size 30 L2)) (by kernel_rfl) (by rw [hY2]; exact hh12) (fun hHeld => ?_)
    rw [hY2] at hHeld ⊢
    clear hY2
    refine tkq 0 (some 66) (v := ?_) rfl ?_ (by assumption) ?_
    rotate_left
    · refine yl_any 30 (.tmp 6) ?_ w3.heap.size 0 ?_ L2 _ ?_ Try.underlying30 rfl ?_ ?_
      · rfl
      · rfl
      · intro w hSw; exact hSw.rangeAt
      · rw [HLL2.out]; exact hd_info
      · rfl
    simp only [Act.put, List.setIfInBounds_toArray, List.set_cons_zero, List.set_cons_succ]
    refine tkq 1 (some 67) (v := ?_) rfl (Or.inl ⟨by rfl, ?_⟩) (by assumption) ?_
    rotate_left
    · intro w hSw; (try dsimp only at hSw); go_simp; first | done | (with_reducible rfl)
    simp only [Act.put, List.setIfInBounds_toArray, List.set_cons_zero, List.set_cons_succ]
    refine tkq 2 (some 68) (v := ?_) rfl (Or.inl ⟨by rfl, ?_⟩) (by assumption) ?_
    rotate_left
    · intro w hSw; (try dsimp only at hSw); go_simp; first | done | (with_reducible rfl)
    simp only [Act.put, List.setIfInBounds_toArray, List.set_cons_zero, List.set_cons_succ]
    refine tkq 3 (some 69) (v := ?_) rfl (Or.inl ⟨by rfl, ?_⟩) (by assumption) ?_
    rotate_left
    · intro w hSw; (try dsimp only at hSw); go_simp; first | done | (with_reducible rfl)
    simp only [Act.put, List.setIfInBounds_toArray, List.set_cons_zero, List.set_cons_succ]
    refine tkq 5 (some 71) (v := ?_) rfl (Or.inl ⟨by rfl, ?_⟩) (by assumption) ?_
    rotate_left
    · intro w hSw; (try dsimp only at hSw); go_simp; first | done | (with_reducible rfl)
    simp only [Act.put, List.setIfInBounds_toArray, List.set_cons_zero, List.set_cons_succ]
    refine tkq 6 (some 72) (v := ?_) rfl (Or.inl ⟨by rfl, ?_⟩) (by assumption) ?_
    rotate_left
    · intro w hSw; (try dsimp only at hSw); go_simp; first | done | (with_reducible rfl)
    simp only [Act.put, List.setIfInBounds_toArray, List.set_cons_zero, List.set_cons_succ]
    refine tkq 7 (some 73) (v := ?_) rfl (Or.inl ⟨by rfl, ?_⟩) (by assumption) ?_
    rotate_left
    · intro w hSw; (try dsimp only at hSw); go_simp; first | done | (with_reducible rfl)
    simp only [Act.put, List.setIfInBounds_toArray, List.set_cons_zero, List.set_cons_succ]
    refine tkq 8 (some 74) (v := ?_) rfl (Or.inl ⟨by rfl, ?_⟩) (by assumption) ?_
    rotate_left
    · intro w hSw; (try dsimp only at hSw); go_simp; first | done | (with_reducible rfl)
    simp only [Act.put, List.setIfInBounds_toArray, List.set_cons_zero, List.set_cons_succ]
    refine tkq 9 (some 75) (v := ?_) rfl (Or.inl ⟨by rfl, ?_⟩) (by assumption) ?_
    rotate_left
    · intro w hSw; (try dsimp only at hSw); go_simp; first | done | (with_reducible rfl)
    simp only [Act.put, List.setIfInBounds_toArray, List.set_cons_zero, List.set_cons_succ]
    refine wpAnyH_ready (rs := [4]) (by kernel_rfl) (by simp) ?_
    refine AllReadyH.cons rfl (fun K hK => ?_) AllReadyH.nil
    go_simp
    go_wp2_with (go_at_call 68; refine HNU2.mono ?_; rintro e W7 ⟨rfl, rfl⟩)
    refine hK.out _ _ (hh12) (fun hHeld => ?_)
    clear hK K
    refine tkq 10 (some 76) (v := (.agg (plL M d low ⟨some ⟨g10, 0, none⟩, e', c10⟩ ⟨some ⟨bk, off + e', none⟩, b - e', c - e'⟩).toArray)) rfl (Or.inl ⟨by rfl, ?_⟩) (by assumption) ?_
    · intro w hSw; rw [← HL2.out]; first | rfl | kernel_rfl
    simp only [Act.put, List.setIfInBounds_toArray, List.set_cons_zero, List.set_cons_succ]
    refine wpAnyH_ready (rs := [11]) (by kernel_rfl) (by simp) ?_
    refine AllReadyH.cons rfl (fun K hK => ?_) AllReadyH.nil
    have hP12 := hP3.kept hQ12 (by omega)
    refine step_st_any (by rfl) w1.heap.size 80 (plL .zero .nil 0 .nil .nil) (plL M d low ⟨some ⟨g10, 0, none⟩, e', c10⟩ ⟨some ⟨bk, off + e', none⟩, b - e', c - e'⟩) (by rfl) (by rfl) hP12 rfl pl_info (by rfl) ?_
    intro w13 hP13 hk13
    refine hK.out _ _ (hh12.kept hk13 (by omega)) (fun hHeld => ?_)
    clear hK K
    refine tkq 12 (some 5) (v := ?_) rfl (Or.inl ⟨by rfl, ?_⟩) (by assumption) ?_
    rotate_left
    · intro w hSw; (try dsimp only at hSw); go_simp; first | done | (with_reducible rfl)
    simp only [Act.put, List.setIfInBounds_toArray, List.set_cons_zero, List.set_cons_succ]
    refine wpAnyH_done (by kernel_rfl) ?_ _
    go_wp2_with fail
    refine bodyPost_ret (results_cell_tmp 4 5 80 (by rfl) _ 80 _ _ _ (by rfl) (by rfl) hP13 Try.underlying80 rfl pl_info) rfl ?_
    have hrv := HRX.out
    rw [HLO.out] at hrv
    have hQ13 : Kept (fun j => j = w1.heap.size ∨ w3.heap.size ≤ j) w3 w13 := (hQ12.mono (S' := fun j => j = w1.heap.size ∨ w3.heap.size ≤ j) (fun j hj => .inl (.inr hj))).trans (hk13.mono (fun j hj => .inl (.inl hj)))
    have hd13 := hd3.kept hQ13 (fun b hb hh => by have h9 : w2.heap.size ≤ b ∧ b < w3.heap.size := hb; have h8 : w1.heap.size < w2.heap.size := hlt2; have h7 : b = w1.heap.size ∨ w3.heap.size ≤ b := hh; omega)
    have hR13 := (hR3.kept hQ13 (fun b hb => by omega)).1
    have ho13 := ho12.kept hk13 (fun j hj hh => by have h7 : (some g10 : Option Nat) = some j := hj; injection h7 with h7; have h6 : j = w1.heap.size := hh; have h5 := hg10.1; have h8 : w1.heap.size < w2.heap.size := hlt2; omega)
    obtain ⟨A13, c13, hv13, _, _, hrd13⟩ := ho13.open_n e' hxt
    injection hv13 with hv13 _ hv13c
    subst hv13; subst hv13c
    have hrt := (hR13.cutTo (m := b) (by omega)).cutFrom (c := c) (k := e') (by omega) (by omega)
    have ecut2 : cutA (some ⟨bk, off, none⟩) c e' = some ⟨bk, off + e', none⟩ := by unfold cutA; rw [if_neg (by omega), Option.map_some, addr_add]
    rw [ecut2, ← HXD.out] at hrt
    unfold UnmPost
    rw [hrv]
    exact ⟨⟨d, _, _, rfl, hd13.mono (fun b _ hb => by have h9 : w2.heap.size ≤ b ∧ b < w3.heap.size := hb; have h8 : w1.heap.size < w2.heap.size := hlt2; show w.heap.size ≤ b; omega), hMwf, ⟨hrd13, x1, x2⟩, ⟨hrt, by show b - e' ≤ c - e'; omega, by show c - e' ≤ maxLen; omega⟩⟩, hQ13.below hb4 hb4.size (by intro j hj; omega)⟩
  · have hg : decide (m.s = 2) = false := decide_eq_false h2
    have hq9 : q = false := by rw [hg] at hq; simpa using hq.symm
    subst hq9
    have HQ := Lib.hid hq
    clear hq
    go_wp2_with fail
    have hR9 := hR3.kept HP9.out.2.2 (fun b hb => by omega)
    refine (bclone_any (some ⟨bk, off, none⟩) e' c (bs.take e') W9 (hR9.cutTo (m := e') (by omega)).1 (by omega) (by omega) hcm (by omega)).mono ?_
    rintro e w10 ⟨v10, rfl, ho10, hb10⟩
    have hh10 := HP9.out.1.below hb10 HP9.out.1.lt
    have hm10 := HP9.out.2.1.below hb10 HP9.out.2.1.lt
    have hQ10 := HP9.out.2.2.trans (Kept.of_below hb10 _)
    have hs9 := HP9.out.2.2.size
    have hs10 := hQ10.size
    have hlh9 := HP9.out.1.lt
    have hlm9 := HP9.out.2.1.lt
    have hel : (bs.take e').length = e' := by rw [List.length_take]; omega
    obtain ⟨g10, c10, _, rfl, _, _, _, _, x1, x2⟩ := ho10.place (by omega)
    rw [hel] at ho10 x1 ⊢
    have HEL := Lib.hid hel
    have hg10 := (ho10.block_lt g10 rfl)
    clear HP9 hR9 hb10 hel
    obtain ⟨M, hM⟩ : ∃ M, revHN f m = M := ⟨_, rfl⟩
    have hMw : M.w = (k : Int) := by rw [← hM, ← hkI]; rfl
    have hMs : M.s = m.s := by rw [← hM]; rfl
    have hMwf : M.wf := by
      rw [← hM]
      exact ⟨hwf.s0, hwf.s1, by show -9223372036854775808 ≤ f % 4 + 1; omega, by show f % 4 + 1 ≤ 9223372036854775807; omega, hwf.tb, hwf.fb⟩
    rw [hM] at hh10 HSET
    have HREVM := Lib.hid (show revHN f m = M from hM)
    have hTU := turn_any (g := g10) W9.heap.size e' c10 a (bs.take e') ms M d w10 ho10 HEL.out (by omega) (by omega) (by omega) hML hMB hMwf (by omega) (by omega) x1 x2
    have hvM : hdV M d = .agg (hdL M d).toArray := rfl
    rw [hvM] at hTU
    have hxs : bs.take e' = (bs.take b).take e' := by rw [List.take_take, Nat.min_eq_left (by omega)]
    rw [show M.w.toNat = k by omega, hMs, hxs, turnB_take _ _ _ _ _ _ (by omega)] at hTU
    have hXd : (turnB (bs.take b) ms a k (mbits m.s)).drop e' = (bs.take b).drop e' := turnB_drop _ _ _ _ _ _ (by omega) (by omega)
    have hXl : (turnB (bs.take b) ms a k (mbits m.s)).length = b := by rw [turnB_len, List.length_take]; omega
    have hrevX := HREV.out
    rw [hM, he'] at hrevX
    obtain ⟨X, hX⟩ : ∃ X, turnB (bs.take b) ms a k (mbits m.s) = X := ⟨_, rfl⟩
    rw [hX] at hTU hXd hXl hrevX
    have HTU := Lib.hid hTU
    have HXD := Lib.hid hXd
    have HXL := Lib.hid hXl
    have HRX := Lib.hid hrevX
    obtain ⟨L2, hL2⟩ : ∃ L, hdL M d = L := ⟨_, rfl⟩
    have hl2 : L2.length = 20 := by rw [← hL2]; rfl
    rw [hL2] at hh10 HTU HSET
    have HL2 := Lib.hid hL2
    have HLL2 := Lib.hid hl2
    clear hTU hXd hXl hrevX hX hM hMw hMs hxs hL2 hl2 hvM
    go_wp2_with (first | ((with_reducible refine at_ldh ?_); refine ld_hd w3.heap.size L2 (by rfl) hh10 HLL2.out ?_) | ((with_reducible refine at_ld5 ?_); refine wpList_load_at w5.heap.size 77 (ms.map (Value.int .u8)) _ (by rfl) hm10 Try.underlying77 rfl (by rw [List.length_map, hML]; exact a5_info) ?_) | fail)
    refine HTU.out.mono ?_
    rintro e w11 ⟨rfl, ho11, hk11⟩
    have hh11 := hh10.kept hk11 (by omega)
    have hQ11 := hQ10.trans' hk11 (fun j hj => .inl (by omega))
    have hs11 := hQ11.size
    have hxt : (X.take e').length = e' := by rw [List.length_take, HXL.out]; omega
    obtain ⟨A11, c11, hv11, _, _, hrd11⟩ := ho11.open_n e' hxt
    injection hv11 with hv11 _ hv11c
    subst hv11; subst hv11c
    have hN1 := hrd11.cutFrom (c := c10) (k := a) (by omega) x1
    have ecut : cutA (some ⟨g10, 0, none⟩) c10 a = some ⟨g10, 0 + a, none⟩ := by unfold cutA; rw [if_neg (by omega), Option.map_some, addr_add]
    rw [ecut, show e' - a = k by omega, List.drop_take, show e' - a = k by omega, Nat.zero_add] at hN1
    have hnum := numberof_any (some ⟨g10, a, none⟩) k (c10 - a) ((X.drop a).take k) w11.drew _ hN1.drew (by omega) (by unfold maxLen at x2 ⊢; omega)
    obtain ⟨low, hlow⟩ : ∃ l, lowS3 ((X.drop a).take k) = l := ⟨_, rfl⟩
    rw [hlow] at hnum
    have HNU := Lib.hid hnum
    have HLO := Lib.hid hlow
    have hR11 := hR3.kept hQ11 (fun b hb => by omega)
    have hca : a ≤ c10 := by omega
    have hcna : ¬ c10 = a := by omega
    have hae : (a : Int) ≤ (e' : Int) := by omega
    have hae2 : a ≤ e' := by omega
    have hebI : (e' : Int) ≤ (b : Int) := by omega
    have heb2 : e' ≤ b := by omega
    have hbc : b ≤ c := by omega
    have hbcI : (b : Int) ≤ (c : Int) := by omega
    have hce : ¬ c = e' := by omega
    have heka : e' - a = k := by omega
    clear hnum hlow hN1 ecut
    go_wp2_with fail
    have hh12 := hh11.drew
    have hQ12 := hQ11.drew
    have ho12 := ho11.drew
    obtain ⟨Y2, hY2⟩ : ∃ x, w11.drew = x := ⟨_, rfl⟩
    have HNU2 := HNU.out
    rw [hY2] at hh12 hQ12 ho12 HNU2
    refine wp_region_held_drew (S := (fun W => At W w3.heap.size 30 L2)) (by kernel_rfl) (by rw [hY2]; exact hh12) (fun hHeld => ?_)
    rw [hY2] at hHeld ⊢
    clear hY2
    refine tkq 0 (some 66) (v := ?_) rfl ?_ (by assumption) ?_
    rotate_left
    · refine yl_any 30 (.tmp 6) ?_ w3.heap.size 0 ?_ L2 _ ?_ Try.underlying30 rfl ?_ ?_
      · rfl
      · rfl
      · intro w hSw; exact hSw.rangeAt
      · rw [HLL2.out]; exact hd_info
      · rfl
    simp only [Act.put, List.setIfInBounds_toArray, List.set_cons_zero, List.set_cons_succ]
    refine tkq 1 (some 67) (v := ?_) rfl (Or.inl ⟨by rfl, ?_⟩) (by assumption) ?_
    rotate_left
    · intro w hSw; (try dsimp only at hSw); go_simp; first | done | (with_reducible rfl)
    simp only [Act.put, List.setIfInBounds_toArray, List.set_cons_zero, List.set_cons_succ]
    refine tkq 2 (some 68) (v := ?_) rfl (Or.inl ⟨by rfl, ?_⟩) (by assumption) ?_
    rotate_left
    · intro w hSw; (try dsimp only at hSw); go_simp; first | done | (with_reducible rfl)
    simp only [Act.put, List.setIfInBounds_toArray, List.set_cons_zero, List.set_cons_succ]
    refine tkq 3 (some 69) (v := ?_) rfl (Or.inl ⟨by rfl, ?_⟩) (by assumption) ?_
    rotate_left
    · intro w hSw; (try dsimp only at hSw); go_simp; first | done | (with_reducible rfl)
    simp only [Act.put, List.setIfInBounds_toArray, List.set_cons_zero, List.set_cons_succ]
    refine tkq 5 (some 71) (v := ?_) rfl (Or.inl ⟨by rfl, ?_⟩) (by assumption) ?_
    rotate_left
    · intro w hSw; (try dsimp only at hSw); go_simp; first | done | (with_reducible rfl)
    simp only [Act.put, List.setIfInBounds_toArray, List.set_cons_zero, List.set_cons_succ]
    refine tkq 6 (some 72) (v := ?_) rfl (Or.inl ⟨by rfl, ?_⟩) (by assumption) ?_
    rotate_left
    · intro w hSw; (try dsimp only at hSw); go_simp; first | done | (with_reducible rfl)
    simp only [Act.put, List.setIfInBounds_toArray, List.set_cons_zero, List.set_cons_succ]
    refine tkq 7 (some 73) (v := ?_) rfl (Or.inl ⟨by rfl, ?_⟩) (by assumption) ?_
    rotate_left
    · intro w hSw; (try dsimp only at hSw); go_simp; first | done | (with_reducible rfl)
    simp only [Act.put, List.setIfInBounds_toArray, List.set_cons_zero, List.set_cons_succ]
    refine tkq 8 (some 74) (v := ?_) rfl (Or.inl ⟨by rfl, ?_⟩) (by assumption) ?_
    rotate_left
    · intro w hSw; (try dsimp only at hSw); go_simp; first | done | (with_reducible rfl)
    simp only [Act.put, List.setIfInBounds_toArray, List.set_cons_zero, List.set_cons_succ]
    refine tkq 9 (some 75) (v := ?_) rfl (Or.inl ⟨by rfl, ?_⟩) (by assumption) ?_
    rotate_left
    · intro w hSw; (try dsimp only at hSw); go_simp; first | done | (with_reducible rfl)
    simp only [Act.put, List.setIfInBounds_toArray, List.set_cons_zero, List.set_cons_succ]
    refine wpAnyH_ready (rs := [4]) (by kernel_rfl) (by simp) ?_
    refine AllReadyH.cons rfl (fun K hK => ?_) AllReadyH.nil
    go_simp
    go_wp2_with (go_at_call 68; refine HNU2.mono ?_; rintro e W7 ⟨rfl, rfl⟩)
    refine hK.out _ _ (hh12) (fun hHeld => ?_)
    clear hK K
    refine tkq 10 (some 76) (v := (.agg (plL M d low ⟨some ⟨g10, 0, none⟩, e', c10⟩ ⟨some ⟨bk, off + e', none⟩, b - e', c - e'⟩).toArray)) rfl (Or.inl ⟨by rfl, ?_⟩) (by assumption) ?_
    · intro w hSw; rw [← HL2.out]; first | rfl | kernel_rfl
    simp only [Act.put, List.setIfInBounds_toArray, List.set_cons_zero, List.set_cons_succ]
    refine wpAnyH_ready (rs := [11]) (by kernel_rfl) (by simp) ?_
    refine AllReadyH.cons rfl (fun K hK => ?_) AllReadyH.nil
    have hP12 := hP3.kept hQ12 (by omega)
    refine step_st_any (by rfl) w1.heap.size 80 (plL .zero .nil 0 .nil .nil) (plL M d low ⟨some ⟨g10, 0, none⟩, e', c10⟩ ⟨some ⟨bk, off + e', none⟩, b - e', c - e'⟩) (by rfl) (by rfl) hP12 rfl pl_info (by rfl) ?_
    intro w13 hP13 hk13
    refine hK.out _ _ (hh12.kept hk13 (by omega)) (fun hHeld => ?_)
    clear hK K
    refine tkq 12 (some 5) (v := ?_) rfl (Or.inl ⟨by rfl, ?_⟩) (by assumption) ?_
    rotate_left
    · intro w hSw; (try dsimp only at hSw); go_simp; first | done | (with_reducible rfl)
    simp only [Act.put, List.setIfInBounds_toArray, List.set_cons_zero, List.set_cons_succ]
    refine wpAnyH_done (by kernel_rfl) ?_ _
    go_wp2_with fail
    refine bodyPost_ret (results_cell_tmp 4 5 80 (by rfl) _ 80 _ _ _ (by rfl) (by rfl) hP13 Try.underlying80 rfl pl_info) rfl ?_
    have hrv := HRX.out
    rw [HLO.out] at hrv
    have hQ13 : Kept (fun j => j = w1.heap.size ∨ w3.heap.size ≤ j) w3 w13 := (hQ12.mono (S' := fun j => j = w1.heap.size ∨ w3.heap.size ≤ j) (fun j hj => .inl (.inr hj))).trans (hk13.mono (fun j hj => .inl (.inl hj)))
    have hd13 := hd3.kept hQ13 (fun b hb hh => by have h9 : w2.heap.size ≤ b ∧ b < w3.heap.size := hb; have h8 : w1.heap.size < w2.heap.size := hlt2; have h7 : b = w1.heap.size ∨ w3.heap.size ≤ b := hh; omega)
    have hR13 := (hR3.kept hQ13 (fun b hb => by omega)).1
    have ho13 := ho12.kept hk13 (fun j hj hh => by have h7 : (some g10 : Option Nat) = some j := hj; injection h7 with h7; have h6 : j = w1.heap.size := hh; have h5 := hg10.1; have h8 : w1.heap.size < w2.heap.size := hlt2; omega)
    obtain ⟨A13, c13, hv13, _, _, hrd13⟩ := ho13.open_n e' hxt
    injection hv13 with hv13 _ hv13c
    subst hv13; subst hv13c
    have hrt := (hR13.cutTo (m := b) (by omega)).cutFrom (c := c) (k := e') (by omega) (by omega)
    have ecut2 : cutA (some ⟨bk, off, none⟩) c e' = some ⟨bk, off + e', none⟩ := by unfold cutA; rw [if_neg (by omega), Option.map_some, addr_add]
    rw [ecut2, ← HXD.out] at hrt
    unfold UnmPost
    rw [hrv]
    exact ⟨⟨d, _, _, rfl, hd13.mono (fun b _ hb => by have h9 : w2.heap.size ≤ b ∧ b < w3.heap.size := hb; have h8 : w1.heap.size < w2.heap.size := hlt2; show w.heap.size ≤ b; omega), hMwf, ⟨hrd13, x1, x2⟩, ⟨hrt, by show b - e' ≤ c - e'; omega, by show c - e' ≤ maxLen; omega⟩⟩, hQ13.below hb4 hb4.size (by intro j hj; omega)⟩
end Go.Proofs.Ytehdilgnlhhjdaa
