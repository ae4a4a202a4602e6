/-
  PacketNumbers, the closed sentence of chapter 9's runs, returns true: its walk.
-/
import Derived.Test.YtehdilgnlhhjdaaJn
import Derived.Test.YtehdilgnlhhjdaaMq17
import Derived.Test.YtehdilgnlhhjdaaMq13
import Derived.Deep.LoopGhost
import Derived.Deep.Cut
namespace Go.Proofs.Ytehdilgnlhhjdaa
set_option linter.unusedVariables false
set_option linter.unusedSimpArgs false
open Go.RowKit Go.ChangeShapes Go.WideShapes Go.Deep
/-- make([]byte, n, n) as a step of a drawn region. -/
theorem step_make9 {ops : Array Oper} {o : Oper} {a : Act} {w : World} {K : Act → World → Prop} {Q : Exit → Act → World → Prop} {E : Prop} (hgd : Region.wanted o (yielded ops a.tmps) = true) (x y : Operand) (ho : o.op = .makeSlice 28 x y)
    (i : TypeInfo) (hi : Try.prog.info? 5 = some i) (hz : i.zero = some (.int .u8 0)) (hs : i.size = 1) (hb : i.bytes = 1) (n : Nat) (hx : a.eval x = .int .i64 n) (hy : a.eval y = .int .i64 n) (hn : n ≤ 1000000)
    (h : K (a.put o.dst (.slice (some ⟨w.heap.size, 0, none⟩) n n)) (w.alloc (.cells (madeL (.int .u8 0) n).toArray 5))) :
    if Region.wanted o (yielded ops a.tmps) = true then Oper.wp Try.prog o a w K Q else E := by
  have hrun := run_make (P := Try.prog) (w := w) 28 5 i (.int .u8 0) Try.underlying28 hi hz .i64 .i64 (n : Int) (n : Int) (by omega) (by omega) (by rw [hb]; omega) (by omega)
  rw [if_pos hgd]
  unfold Oper.wp
  simp [execOp, ho, hx, hy, hrun, Result.andThen, hs]
  show K _ _
  simpa [madeL] using h
theorem rd_made (w : World) (n : Nat) (hn : n ≤ 1000000) : Rd (w.alloc (.cells (madeL (.int .u8 0) n).toArray 5)) (w.alloc (.cells (madeL (.int .u8 0) n).toArray 5)).heap.size (some ⟨w.heap.size, 0, none⟩) n (List.replicate n 0) := by
  have e : madeL (.int .u8 0) n = (List.replicate n (0 : Int)).map (Value.int .u8) := by rw [List.map_replicate, ← madeL_u8]
  rw [e]
  refine ⟨by simp, fun y hy => by rw [List.eq_of_mem_replicate hy]; omega, fun hp => ⟨w.heap.size, 0, rfl, (At.new w 5 _).lt, fun i hi => ?_⟩⟩
  rw [(At.new w 5 ((List.replicate n (0 : Int)).map (Value.int .u8))).cell, Nat.zero_add, List.getElem?_map, List.getElem?_replicate, if_pos hi, List.getD_eq_getElem?_getD, List.getElem?_replicate, if_pos hi]
  rfl
theorem step_append_at9 {P : Program} {ops : Array Oper} {o : Oper} {a : Act} {w : World} {K : Act → World → Prop} {Q : Exit → Act → World → Prop} {E : Prop} (hgd : Region.wanted o (yielded ops a.tmps) = true) (s x : Operand) (t : TypeId)
    (ho : o.op = .call { callee := .builtin .append, args := #[s, x], argTypes := #[t, t] })
    (base : Nat) (e : TypeId) (i : TypeInfo) (ht : P.underlying t = some (.slice e)) (hi : P.info? e = some i) (hz : i.zero = some (.int .u8 0)) (hsize : i.size = 1) (hby : i.bytes = 1)
    (v : Value) (bs : List Int) (hs : a.eval s = v) (hown : Own w base e v bs)
    (B : Nat) (A : Option Addr) (m c : Nat) (news : List Int) (hx : a.eval x = .slice A m c) (hr : Rd w B A m news)
    (hlen : bs.length + m ≤ 140737488355328) (hbase : base ≤ w.heap.size)
    (h : ∀ v' w', Own w' base e v' (bs ++ news) → w.grownBy w' v.ownBlock → (v'.ownBlock = v.ownBlock ∨ v'.ownBlock = some w.heap.size) → K (a.put o.dst v') w') :
    if Region.wanted o (yielded ops a.tmps) = true then Oper.wp P o a w K Q else E := by
  rw [if_pos hgd]
  obtain ⟨v', w', h1, h2, h3, h4⟩ := run_append_at (P := P) (w := w) base t o.type e i ht hi hz hsize hby v bs hown B A m c news hr hlen hbase
  unfold Oper.wp
  simp [execOp, ho, resolve, invoke, builtin, hs, hx, h1, Result.andThen]
  exact h v' w' h2 h3 h4
theorem grown_below9 {w w' w0 : World} {base : Nat} {v : Value} {e : TypeId} {bs : List Int} (hown : Own w base e v bs) (hg : w.grownBy w' v.ownBlock) (hb : Below base w0 w) (hs : base ≤ w.heap.size) : Below base w0 w' :=
  (Kept.of_grown (S := fun j => base ≤ j) hg (fun k hk => .inl (hown.block_lt k hk).1)).below hb hs (fun j hj => hj)
theorem of9 (key : Int) (k0 : 0 ≤ key) (k1 : key < 18446744073709551616) : ∃ sk mk : Int, (0 ≤ sk ∧ sk < 18446744073709551616) ∧ (0 ≤ mk ∧ mk < 18446744073709551616) ∧ ∀ W, Calls Try.prog 6 #[.int .u64 key] W fun e w' => e = .returned (.agg #[.int .u64 sk, .int .u64 mk]) ∧ Below W.heap.size W w' :=
  ⟨keyedS key [115, 101, 97, 108], keyedS key [109, 97, 115, 107], keyedS_bd _ _, keyedS_bd _ _, fun W => rof_keys key W k0 k1⟩
theorem pack_len9 (sk mk n : Int) (m : HN) (tok pay : List Int) (h : mayB n m tok pay = true) : 1 ≤ (packS sk mk n m tok pay).length ∧ (packS sk mk n m tok pay).length ≤ 512 := by
  unfold mayB at h
  simp only [Bool.and_eq_true, decide_eq_true_eq] at h
  obtain ⟨⟨⟨hr, hn⟩, hw4⟩, hl⟩ := h
  obtain ⟨s0, s2, w0, w4, t32, t0, p0, f0⟩ := hright_parts _ _ hr
  unfold packS
  rw [turnB_len]
  unfold bareS
  rw [List.length_append, List.length_append, beS_len, sealS_len]
  omega
def lens9 : List Nat := [0, 1, 2, 3, 4, 20, 450, 480, 512]
def hd9 (a b : Nat) : HN := ⟨a, ⟨1, 2, 0, 0, 0, 0, 0, 0⟩, .zero, b, false⟩
theorem hd9_wf (a b : Nat) (ha : a ≤ 3) (hb : b ≤ 6) : (hd9 a b).wf := ⟨by unfold hd9; simp only; omega, by unfold hd9; simp only; omega, by unfold hd9; simp only; omega, by unfold hd9; simp only; omega, by intro x hx; simp [hd9, N8.l] at hx; omega, HN.zero_wf.fb⟩
/-- What stays while PacketNumbers asks: keys, a head, the lengths. -/
structure Nb (w : World) (gy gh gl : Nat) (sk mk : Int) (G : List Value) (m : HN) (W : World) : Prop where
  k : At W gy 24 [.int .u64 sk, .int .u64 mk]
  h : At W gh 30 G
  l : At W gl 3 (lens9.map fun (n : Nat) => Value.int .i64 (Int.ofNat n))
  f : HFits W (fun b => b < w.heap.size) m .nil []
  b : Below w.heap.size w W
theorem Nb.below {w : World} {gy gh gl : Nat} {sk mk : Int} {G : List Value} {m : HN} {W W' : World} (h : Nb w gy gh gl sk mk G m W) (k : Below W.heap.size W W') : Nb w gy gh gl sk mk G m W' :=
  ⟨h.k.below k h.k.lt, h.h.below k h.h.lt, h.l.below k h.l.lt, h.f.below k, h.b.trans (k.mono h.b.size)⟩
/-- .. and a packet. -/
structure Nc (w : World) (gy gh gl : Nat) (sk mk : Int) (G : List Value) (m : HN) (A : Option Addr) (n : Nat) (X : List Int) (W : World) : Prop where
  nb : Nb w gy gh gl sk mk G m W
  x : Rd W W.heap.size A n X
theorem Nc.below {w : World} {gy gh gl : Nat} {sk mk : Int} {G : List Value} {m : HN} {A : Option Addr} {n : Nat} {X : List Int} {W W' : World} (h : Nc w gy gh gl sk mk G m A n X W) (k : Below W.heap.size W W') : Nc w gy gh gl sk mk G m A n X W' :=
  ⟨h.nb.below k, (h.x.below k).more k.size⟩
set_option maxRecDepth 100000 in
set_option maxHeartbeats 16000000 in
theorem pnumbers9_law (w : World) : Calls Try.prog 3 #[] w fun e w' => e = .returned (.bool true) ∧ Below w.heap.size w w' := by
  obtain ⟨i0, hi, hz0, hz1, hz2⟩ := info_parts u8_info
  obtain ⟨sk, mk, hsk, hmk, hof⟩ := of9 77 (by decide) (by decide)
  obtain ⟨so, mo, hso, hmo, hoo⟩ := of9 78 (by decide) (by decide)
  have HOF := Lib.hid hof
  have HOO := Lib.hid hoo
  have HKB := Lib.hid (And.intro hsk (And.intro hmk (And.intro hso hmo)))
  clear hsk hmk hso hmo hof hoo
  go_enter Try.func3, Try.ntmps3
  go_wp2_with (go_at_call 6; (with_reducible refine (HOF.out w).mono ?_); rintro e w1 ⟨rfl, hb1⟩; have HB1 := Lib.hid hb1; clear hb1)
  obtain ⟨gy, hgk⟩ : ∃ x, w1.heap.size = x := ⟨_, rfl⟩
  have hk2 : At (w1.alloc (.cells #[.int .u64 sk, .int .u64 mk] 24)) gy 24 [.int .u64 sk, .int .u64 mk] := by rw [← hgk]; exact At.new w1 24 [.int .u64 sk, .int .u64 mk]
  have hb2 : Below w.heap.size w (w1.alloc (.cells #[.int .u64 sk, .int .u64 mk] 24)) := HB1.out.alloc HB1.out.size _
  obtain ⟨w2, hw2⟩ : ∃ W, w1.alloc (.cells #[.int .u64 sk, .int .u64 mk] 24) = W := ⟨_, rfl⟩
  rw [hw2] at hk2 hb2
  rw [hw2, hgk]
  have H2 : Hid (At w2 gy 24 [.int .u64 sk, .int .u64 mk] ∧ Below w.heap.size w w2) := Lib.hid ⟨hk2, hb2⟩
  clear hk2 hb2 hw2 hgk HB1
  go_loopg [2, 3, 4, 6, 7, 8, 9, 10] 3 (fun kx s2 s3 s4 s6 s7 s8 s9 s10 wr => ∃ a : Nat, s2 = .int .i64 a ∧ a ≤ 3 ∧ 3 - a ≤ kx ∧ Hid (At wr gy 24 [.int .u64 sk, .int .u64 mk] ∧ Below w.heap.size w wr))
  case atStart => exact ⟨0, rfl, by omega, by omega, H2⟩
  case round =>
    clear H2
    obtain ⟨a, rfl, ha, hkx, hA⟩ := hrel
    by_cases ha3 : a < 3
    · have haz : (a : Int) < 3 := by omega
      go_wp2
      go_loopg [3, 4, 6, 7, 8, 9, 10] 6 (fun kx s3 s4 s6 s7 s8 s9 s10 wr => ∃ b : Nat, s3 = .int .i64 b ∧ b ≤ 6 ∧ 6 - b ≤ kx ∧ Hid (At wr gy 24 [.int .u64 sk, .int .u64 mk] ∧ Below w.heap.size w wr))
      case atStart => exact ⟨0, rfl, by omega, by omega, hA⟩
      case round =>
        clear hA
        obtain ⟨b, rfl, hb, hkx2, hA⟩ := hrel
        by_cases hb6 : b < 6
        · have hbz : (b : Int) < 6 := by omega
          obtain ⟨gh, hgh⟩ : ∃ x, wr.heap.size = x := ⟨_, rfl⟩
          have hZ : At (wr.alloc (.cells #[.int .i64 0, .int .u8 0, .int .u8 0, .int .u8 0, .int .u8 0, .int .u8 0, .int .u8 0, .int .u8 0, .int .u8 0, .int .u8 0, .int .u8 0, .int .u8 0, .int .u8 0, .int .u8 0, .int .u8 0, .int .u8 0, .int .u8 0, .slice none 0 0, .int .i64 0, .bool false] 30)) gh 30 (hdL .zero .nil) := by rw [← hgh]; exact At.new wr 30 (hdL .zero .nil)
          have hbz : Below wr.heap.size wr (wr.alloc (.cells #[.int .i64 0, .int .u8 0, .int .u8 0, .int .u8 0, .int .u8 0, .int .u8 0, .int .u8 0, .int .u8 0, .int .u8 0, .int .u8 0, .int .u8 0, .int .u8 0, .int .u8 0, .int .u8 0, .int .u8 0, .int .u8 0, .int .u8 0, .slice none 0 0, .int .i64 0, .bool false] 30)) := (Below.refl _ _).alloc (Nat.le_refl _) _
          have HZ := Lib.hid hZ
          have HBZ := Lib.hid hbz
          have HGH := Lib.hid hgh
          clear hZ hbz
          go_upto_region 10 with ((with_reducible refine at_sth ?_); refine st_hd gh (hdL .zero .nil) (hdL (hd9 a b) .nil) (by rfl) (by rfl) HZ.out rfl rfl rfl ?_; intro w6 hA6 hk6; have H6 := Lib.hid (And.intro hA6 hk6); clear hA6 hk6)
          obtain ⟨gl, hgl⟩ : ∃ x, w6.heap.size = x := ⟨_, rfl⟩
          obtain ⟨w5, hw5⟩ : ∃ W, w6.alloc (.cells #[.int .i64 0, .int .i64 1, .int .i64 2, .int .i64 3, .int .i64 4, .int .i64 20, .int .i64 450, .int .i64 480, .int .i64 512] 3) = W := ⟨_, rfl⟩
          rw [hw5, hgl]
          obtain ⟨m, hm⟩ : ∃ m, hd9 a b = m := ⟨_, rfl⟩
          have HWF := Lib.hid (hd9_wf a b ha hb)
          have hmw : m.w = (b : Int) := by rw [← hm]; rfl
          rw [hm] at H6 HWF
          obtain ⟨G, hG⟩ : ∃ G, hdL m .nil = G := ⟨_, rfl⟩
          have hN5 : Nb w gy gh gl sk mk G m w5 := by
            rw [← hG, ← hw5, ← hgl]
            have hb6' : Below wr.heap.size wr w6 := H6.out.2.below HBZ.out HBZ.out.size (by intro j hj; subst hj; rw [HGH.out]; exact Nat.le_refl _)
            have hbl : Below w6.heap.size w6 (w6.alloc (.cells #[.int .i64 0, .int .i64 1, .int .i64 2, .int .i64 3, .int .i64 4, .int .i64 20, .int .i64 450, .int .i64 480, .int .i64 512] 3)) := (Below.refl _ _).alloc (Nat.le_refl _) _
            have hbt := hb6'.trans (hbl.mono hb6'.size)
            exact ⟨hA.out.1.below hbt hA.out.1.lt, H6.out.1.below hbl H6.out.1.lt, At.new w6 3 _, ⟨HWF.out, inD_nil _ _⟩, hA.out.2.trans (hbt.mono hA.out.2.size)⟩
          have hwf : 0 ≤ m.w ∧ m.w ≤ 1000 := by omega
          have hvv : hdV m .nil = .agg G.toArray := by rw [← hG]; rfl
          have hGl : G.length = 20 := by rw [← hG]; rfl
          have HVV := Lib.hid hvv
          have HGL := Lib.hid hGl
          have HN5 := Lib.hid hN5
          clear hvv hGl hG hm hw5 hgl hgh hA hN5 hmw H6 HZ HBZ HGH HWF
          have hPR := fun (N : Int) (n0 : 0 ≤ N) (n1 : N < 18446744073709551616) W A (n : Nat) pay (hn : n ≤ 1000) (h : HFits W (fun b => b < w.heap.size) m .nil []) (h' : Rd W W.heap.size A n pay) => protects_any (fun b => b < w.heap.size) sk mk N m .nil [] A n n pay W h h' (Nat.le_refl _) (by unfold maxLen; omega) (by omega) HKB.out.1.1 HKB.out.1.2 HKB.out.2.1.1 HKB.out.2.1.2 n0 n1 hwf.1 hwf.2
          rw [HVV.out] at hPR
          have hkk : kL sk mk = [.int .u64 sk, .int .u64 mk] := rfl
          rw [hkk] at hPR
          have HPR := Lib.hid hPR
          clear hPR
          go_loopg [6, 26] 9 (fun kx s6 s26 wr => ∃ j : Nat, s26 = .int .i64 j ∧ j ≤ 9 ∧ 9 - j ≤ kx ∧ Hid (Nb w gy gh gl sk mk G m wr))
          case atStart => exact ⟨0, rfl, by omega, by omega, HN5⟩
          case round =>
            clear HN5
            obtain ⟨j, rfl, hj, hkx3, hN⟩ := hrel
            by_cases hj9 : j < 9
            · have hjz : (j : Int) < 9 := by omega
              obtain ⟨n, hn, hn5⟩ : ∃ n, lens9[j]? = some n ∧ n ≤ 512 := by
                have : j = 0 ∨ j = 1 ∨ j = 2 ∨ j = 3 ∨ j = 4 ∨ j = 5 ∨ j = 6 ∨ j = 7 ∨ j = 8 := by omega
                rcases this with rfl | rfl | rfl | rfl | rfl | rfl | rfl | rfl | rfl <;> exact ⟨_, rfl, by decide⟩
              have cl : wr.cell? ⟨gl, j, none⟩ = some (.int .i64 n) := by rw [hN.out.l.cell, List.getElem?_map, hn]; rfl
              clear hn
              have hT := hN.out
              go_wp2_with fail
              have hT := hT.below ((Below.refl _ _).drew)
              obtain ⟨Y, hY⟩ : ∃ x, wr.drew = x := ⟨_, rfl⟩
              rw [hY] at hT
              refine wp_region_held_drew (S := (Nb w gy gh gl sk mk G m)) (by kernel_rfl) (by rw [hY]; exact hT) (fun hHeld => ?_)
              rw [hY] at hHeld ⊢
              clear hY
              refine tkq 0 (some 30) (v := ?_) rfl ?_ (by assumption) ?_
              rotate_left
              · refine yl_any 24 (.tmp 1) ?_ gy 0 ?_ [.int .u64 sk, .int .u64 mk] _ ?_ Try.underlying24 rfl ?_ ?_
                · rfl
                · rfl
                · intro w hSw; exact hSw.k.rangeAt
                · exact rkt_info
                · rfl
              simp only [Act.put, List.setIfInBounds_toArray, List.set_cons_zero, List.set_cons_succ]
              refine tkq 1 (some 31) (v := ?_) rfl ?_ (by assumption) ?_
              rotate_left
              · refine yl_any 30 (.tmp 4) ?_ gh 0 ?_ G _ ?_ Try.underlying30 rfl ?_ ?_
                · rfl
                · rfl
                · intro w hSw; exact hSw.h.rangeAt
                · rw [HGL.out]; exact hd_info
                · rfl
              simp only [Act.put, List.setIfInBounds_toArray, List.set_cons_zero, List.set_cons_succ]
              refine tkq 2 (some 32) (v := ?_) rfl (Or.inl ⟨by rfl, ?_⟩) (by assumption) ?_
              rotate_left
              · intro w hSw; (try dsimp only at hSw); go_simp; first | done | (with_reducible rfl)
              simp only [Act.put, List.setIfInBounds_toArray, List.set_cons_zero, List.set_cons_succ]
              refine wpAnyH_ready (rs := [3]) (by kernel_rfl) (by simp) ?_
              refine AllReadyH.cons rfl (fun K hK => ?_) AllReadyH.nil
              refine step_make9 (by rfl) (.tmp 32) (.tmp 32) rfl i0 hi hz0 hz1 hz2 n (by rfl) (by rfl) (by omega) ?_
              have hbm : Below Y.heap.size Y (Y.alloc (.cells (madeL (.int .u8 0) n).toArray 5)) := (Below.refl _ _).alloc (Nat.le_refl _) _
              have hrm := rd_made Y n (by omega)
              have hT := hT.below hbm
              obtain ⟨W3, hWm⟩ : ∃ x, Y.alloc (.cells (madeL (.int .u8 0) n).toArray 5) = x := ⟨_, rfl⟩
              rw [hWm] at hrm hT ⊢
              clear hWm hbm
              refine hK.out _ _ (hT) (fun hHeld => ?_)
              clear hK K
              refine wpAnyH_ready (rs := [4]) (by kernel_rfl) (by simp) ?_
              refine AllReadyH.cons rfl (fun K hK => ?_) AllReadyH.nil
              go_simp
              go_wp2_with (go_at_call 7; (with_reducible refine (HPR.out 300 (by decide) (by decide) W3 _ n _ (by omega) hT.f hrm).mono ?_); rintro e V4 ⟨rfl, hbc⟩)
              have hT := hT.below hbc
              clear hbc hrm
              refine hK.out _ _ (hT) (fun hHeld => ?_)
              clear hK K
              refine tkq 5 (some 35) (v := ?_) rfl (Or.inl ⟨by rfl, ?_⟩) (by assumption) ?_
              rotate_left
              · intro w hSw; (try dsimp only at hSw); go_simp; first | done | (with_reducible rfl)
              simp only [Act.put, List.setIfInBounds_toArray, List.set_cons_zero, List.set_cons_succ]
              refine tkq 6 (some 36) (v := ?_) rfl (Or.inl ⟨by rfl, ?_⟩) (by assumption) ?_
              rotate_left
              · intro w hSw; (try dsimp only at hSw); go_simp; first | done | (with_reducible rfl)
              simp only [Act.put, List.setIfInBounds_toArray, List.set_cons_zero, List.set_cons_succ]
              refine tkq 7 (some 37) (v := ?_) rfl ?_ (by assumption) ?_
              rotate_left
              · refine yl_any 24 (.tmp 1) ?_ gy 0 ?_ [.int .u64 sk, .int .u64 mk] _ ?_ Try.underlying24 rfl ?_ ?_
                · rfl
                · rfl
                · intro w hSw; exact hSw.k.rangeAt
                · exact rkt_info
                · rfl
              simp only [Act.put, List.setIfInBounds_toArray, List.set_cons_zero, List.set_cons_succ]
              refine tkq 8 (some 38) (v := ?_) rfl ?_ (by assumption) ?_
              rotate_left
              · refine yl_any 30 (.tmp 4) ?_ gh 0 ?_ G _ ?_ Try.underlying30 rfl ?_ ?_
                · rfl
                · rfl
                · intro w hSw; exact hSw.h.rangeAt
                · rw [HGL.out]; exact hd_info
                · rfl
              simp only [Act.put, List.setIfInBounds_toArray, List.set_cons_zero, List.set_cons_succ]
              refine tkq 9 (some 39) (v := ?_) rfl (Or.inl ⟨by rfl, ?_⟩) (by assumption) ?_
              rotate_left
              · intro w hSw; (try dsimp only at hSw); go_simp; first | done | (with_reducible rfl)
              simp only [Act.put, List.setIfInBounds_toArray, List.set_cons_zero, List.set_cons_succ]
              refine wpAnyH_ready (rs := [10]) (by kernel_rfl) (by simp) ?_
              refine AllReadyH.cons rfl (fun K hK => ?_) AllReadyH.nil
              refine step_make9 (by rfl) (.tmp 39) (.tmp 39) rfl i0 hi hz0 hz1 hz2 n (by rfl) (by rfl) (by omega) ?_
              have hbm : Below V4.heap.size V4 (V4.alloc (.cells (madeL (.int .u8 0) n).toArray 5)) := (Below.refl _ _).alloc (Nat.le_refl _) _
              have hrm := rd_made V4 n (by omega)
              have hT := hT.below hbm
              obtain ⟨W10, hWm⟩ : ∃ x, V4.alloc (.cells (madeL (.int .u8 0) n).toArray 5) = x := ⟨_, rfl⟩
              rw [hWm] at hrm hT ⊢
              clear hWm hbm
              refine hK.out _ _ (hT) (fun hHeld => ?_)
              clear hK K
              refine wpAnyH_ready (rs := [11]) (by kernel_rfl) (by simp) ?_
              refine AllReadyH.cons rfl (fun K hK => ?_) AllReadyH.nil
              go_simp
              go_wp2_with (go_at_call 7; (with_reducible refine (HPR.out 4611686018427387904 (by decide) (by decide) W10 _ n _ (by omega) hT.f hrm).mono ?_); rintro e V11 ⟨rfl, hbc⟩)
              have hT := hT.below hbc
              clear hbc hrm
              refine hK.out _ _ (hT) (fun hHeld => ?_)
              clear hK K
              refine tkq 12 (some 42) (v := ?_) rfl (Or.inl ⟨by rfl, ?_⟩) (by assumption) ?_
              rotate_left
              · intro w hSw; (try dsimp only at hSw); go_simp; first | done | (with_reducible rfl)
              simp only [Act.put, List.setIfInBounds_toArray, List.set_cons_zero, List.set_cons_succ]
              refine tkq 13 (some 43) (v := ?_) rfl (Or.inl ⟨by rfl, ?_⟩) (by assumption) ?_
              rotate_left
              · intro w hSw; (try dsimp only at hSw); go_simp; first | done | (with_reducible rfl)
              simp only [Act.put, List.setIfInBounds_toArray, List.set_cons_zero, List.set_cons_succ]
              refine wpAnyH_done (by kernel_rfl) ?_ _
              have HT2 := Lib.hid hT
              clear hT hHeld
              go_wp2_with fail
              go_roundg (9 - (j + 1))
              case measure => omega
              case rel => exact ⟨j + 1, by simp, by omega, by omega, HT2⟩
            · obtain rfl : j = 9 := by omega
              have kc := fun (w : World) (C : Array Value) (n c : Nat) => Lib.run_convert_bytes_const (P := Try.prog) w 28 5 C n c Try.underlying28 Try.underlying5
              have hbm : Below wr.heap.size wr (wr.alloc (.cells #[.int .u8 112, .int .u8 97, .int .u8 121, .int .u8 108, .int .u8 111, .int .u8 97, .int .u8 100] 5 (7, 8))) := (Below.refl _ _).alloc (Nat.le_refl _) _
              have hrm : Rd (wr.alloc (.cells #[.int .u8 112, .int .u8 97, .int .u8 121, .int .u8 108, .int .u8 111, .int .u8 97, .int .u8 100] 5 (7, 8))) (wr.heap.size + 1) (some ⟨wr.heap.size, 0, none⟩) 7 [112, 97, 121, 108, 111, 97, 100] := Rd.litm wr 5 [112, 97, 121, 108, 111, 97, 100] (by intro x hx; simp at hx; omega) #[.int .u8 112, .int .u8 97, .int .u8 121, .int .u8 108, .int .u8 111, .int .u8 97, .int .u8 100] (7, 8) rfl
              have hsm : (wr.alloc (.cells #[.int .u8 112, .int .u8 97, .int .u8 121, .int .u8 108, .int .u8 111, .int .u8 97, .int .u8 100] 5 (7, 8))).heap.size = wr.heap.size + 1 := by simp
              rw [← hsm] at hrm
              have hNm := hN.out.below hbm
              have kc0 : wr.cell? ⟨gy, 0, none⟩ = some (.int .u64 sk) := hN.out.k.cell 0
              have kc1 : wr.cell? ⟨gy, 1, none⟩ = some (.int .u64 mk) := hN.out.k.cell 1
              obtain ⟨wm, hwm⟩ : ∃ x, wr.alloc (.cells #[.int .u8 112, .int .u8 97, .int .u8 121, .int .u8 108, .int .u8 111, .int .u8 97, .int .u8 100] 5 (7, 8)) = x := ⟨_, rfl⟩
              rw [hwm] at hrm hNm
              have hRP := rprotect_any (fun b => b < w.heap.size) sk mk 5 m .nil [] (some ⟨wr.heap.size, 0, none⟩) 7 7 [112, 97, 121, 108, 111, 97, 100] wm hNm.f hrm (Nat.le_refl _) (by unfold maxLen; omega) (by omega) HKB.out.1.1 HKB.out.1.2 HKB.out.2.1.1 HKB.out.2.1.2 (by decide) (by decide) hwf.1 hwf.2
              rw [HVV.out, hkk] at hRP
              unfold RProPost at hRP
              have hPL := fun h => pack_len9 sk mk 5 m [] [112, 97, 121, 108, 111, 97, 100] h
              obtain ⟨B, hB⟩ : ∃ B, mayB 5 m [] [112, 97, 121, 108, 111, 97, 100] = B := ⟨_, rfl⟩
              obtain ⟨Z, hZ⟩ : ∃ Z, packS sk mk 5 m [] [112, 97, 121, 108, 111, 97, 100] = Z := ⟨_, rfl⟩
              rw [hB, hZ] at hRP hPL
              have HRP := Lib.hid hRP
              have HNm := Lib.hid hNm
              clear hsm hbm hrm hNm hRP hB hZ
              go_wp2_with (first | ((with_reducible refine at_ldh ?_); refine ld_hd gh G (by rfl) hN.out.h HGL.out ?_) | fail)
              (with_reducible refine HRP.out.mono ?_)
              rintro e w7 ⟨v7, rfl, ho7, hb7⟩
              have hN7 := HNm.out.below hb7
              clear hwm HNm HRP hb7 kc0 kc1 hN
              cases B with
              | false =>
                rw [if_neg (by decide)] at ho7
                obtain ⟨A7, c7, rfl, _, _, _⟩ := ho7.open_
                have H7 : Hid (At w7 gy 24 [.int .u64 sk, .int .u64 mk] ∧ Below w.heap.size w w7) := Lib.hid ⟨hN7.k, hN7.b⟩
                clear ho7 hN7
                go_wp2_with fail
                go_loopg [9, 10] 1 (fun kx s9 s10 wr => s9 = .int .i64 0 ∧ wr = w7)
                case atStart => exact ⟨rfl, rfl⟩
                case round =>
                  obtain ⟨rfl, rfl⟩ := hrel
                  go_wp2_with fail
                  go_roundg (6 - (b + 1))
                  case measure => omega
                  case rel => exact ⟨b + 1, by simp, by omega, by omega, H7⟩
              | true =>
                rw [if_pos rfl] at ho7
                obtain ⟨hz1', hz2'⟩ := hPL rfl
                obtain ⟨nz, hnz⟩ : ∃ l, Z.length = l := ⟨_, rfl⟩
                rw [hnz] at hz1' hz2'
                obtain ⟨A7, c7, e7, p71, p72, hr7⟩ := ho7.open_n nz hnz
                obtain ⟨g7, c7', _, hv7, _, _, _, _, _, _⟩ := ho7.place (by rw [hnz]; omega)
                subst e7
                injection hv7 with e1 e2 e3
                subst e1; subst e3
                clear e2
                have HNZ := Lib.hid hnz
                have HC : Hid (Nc w gy gh gl sk mk G m (some ⟨g7, 0, none⟩) nz Z w7) := Lib.hid ⟨hN7, hr7⟩
                have hc7 : c7 ≤ 9223372036854775807 := by unfold maxLen at p72; omega
                have HP72 := Lib.hid p72
                clear ho7 hN7 hr7 hnz hPL p72
                go_wp2_with fail
                go_loopg [9, 10] nz (fun kx s9 s10 wr => ∃ i : Nat, s9 = .int .i64 i ∧ i ≤ nz ∧ nz - i ≤ kx ∧ Hid (Nc w gy gh gl sk mk G m (some ⟨g7, 0, none⟩) nz Z wr))
                case atStart => exact ⟨0, rfl, Nat.zero_le _, by omega, HC⟩
                case round =>
                  clear HC
                  obtain ⟨i, rfl, hi', hkx4, hC⟩ := hrel
                  by_cases hin : i < nz
                  · have hiz : (i : Int) < (nz : Int) := by omega
                    have hic : (i : Int) ≤ (c7 : Int) := by omega
                    have hbn : Below wr.heap.size wr (wr.alloc (.cells #[] 5)) := (Below.refl _ _).alloc (Nat.le_refl _) _
                    have hR2 := hC.out.x.below hbn
                    obtain ⟨y, hy⟩ : ∃ y, Z[i]? = some y := ⟨_, List.getElem?_eq_getElem (by rw [HNZ.out]; exact hin)⟩
                    go_wp2_with (first | (at_builtin; refine wpList_append_rd (by rfl) (.tmp 62) (.tmp 63) 28 rfl wr.heap.size 5 i0 Try.underlying28 hi hz0 hz1 hz2 _ [] rfl (Own.of_block (n := 0) (cap := 0) Byt.nil rfl (heap_alloc_new wr _) (Nat.le_refl _) (Nat.le_refl _) (Nat.zero_le _) rfl rfl) _ _ nz c7 Z rfl hR2 (by simp; omega) wr hbn hbn.size ?_; intro v2 w8 ho8 hb8 hg8; have ho8 := ho8.cast (List.nil_append Z); obtain ⟨A2, c2, rfl, q1, q2, _⟩ := ho8.open_n nz HNZ.out; obtain ⟨g2, c', _, hv, _, _, _, hgb, _, _⟩ := ho8.place (by rw [HNZ.out]; omega); obtain ⟨rfl, rfl⟩ : A2 = some ⟨g2, 0, none⟩ ∧ c2 = c' := (by injection hv with e1 e2 e3; exact ⟨e1, e3⟩); clear hv hg8; obtain ⟨hcy, _, _, hfz⟩ := own_cell ho8 HNZ.out i y hy; have hq2 := q2; unfold maxLen at hq2) | fail)
                    have hxb : ∀ x, 0 ≤ bits BinOp.xor IntKind.u8 y x ∧ bits BinOp.xor IntKind.u8 y x < 256 := fun x => u8_bits_bd _ _ _
                    generalize hE : bits BinOp.xor IntKind.u8 y _ = tv
                    have htv : 0 ≤ tv ∧ tv < 256 := by rw [← hE]; exact hxb _
                    have ho9 := own_set ho8 HNZ.out (by omega) i tv htv
                    have hb9 := hb8.setCell (p := ⟨g2, i, none⟩) hgb (.int .u8 tv)
                    obtain ⟨W9, hW9⟩ : ∃ x, w8.setCell ⟨g2, i, none⟩ (.int .u8 tv) = x := ⟨_, rfl⟩
                    rw [hW9] at ho9 hb9 ⊢
                    have hxl : (Z.set i tv).length = nz := by rw [List.length_set, HNZ.out]
                    obtain ⟨_, _, e9, _, _, hrx⟩ := ho9.open_n nz hxl
                    injection e9 with e91 e92 e93
                    subst e91; subst e93
                    clear e92
                    have hT := hC.out.below hb9
                    have hOX := fun (l : Int) (has : Bool) (l0 : 0 ≤ l) (l1 : l < 18446744073709551616) W (A : Option Addr) (n c : Nat) (bs : List Int) (hr : Rd W W.heap.size A n bs) (hn : n ≤ 1100) (hnc : n ≤ c) (hcm : c ≤ maxLen) (hA : A = none → c = 0) => opens9_any sk mk l has A n c bs W hr (by omega) hnc hcm hA HKB.out.1.1 HKB.out.1.2 HKB.out.2.1.1 HKB.out.2.1.2 l0 l1
                    rw [hkk] at hOX
                    have HOX := Lib.hid hOX
                    clear hOX hE hxb htv ho8 hb8 ho9 hb9 hW9 hxl hcy hfz hy hR2 hbn hgb hC
                    go_wp2_with fail
                    have hT := hT.below ((Below.refl _ _).drew)
                    have hrx : Rd W9.drew W9.drew.heap.size (some ⟨g2, 0, none⟩) nz (Z.set i tv) := hrx.drew
                    obtain ⟨Y, hY⟩ : ∃ x, W9.drew = x := ⟨_, rfl⟩
                    rw [hY] at hT hrx
                    refine wp_region_held_drew (S := (Nc w gy gh gl sk mk G m (some ⟨g7, 0, none⟩) nz Z)) (by kernel_rfl) (by rw [hY]; exact hT) (fun hHeld => ?_)
                    rw [hY] at hHeld ⊢
                    clear hY
                    refine tkq 0 (some 75) (v := ?_) rfl ?_ (by assumption) ?_
                    rotate_left
                    · refine yl_any 24 (.tmp 1) ?_ gy 0 ?_ [.int .u64 sk, .int .u64 mk] _ ?_ Try.underlying24 rfl ?_ ?_
                      · rfl
                      · rfl
                      · intro w hSw; exact hSw.nb.k.rangeAt
                      · exact rkt_info
                      · rfl
                    simp only [Act.put, List.setIfInBounds_toArray, List.set_cons_zero, List.set_cons_succ]
                    refine tkq 1 (some 76) (v := ?_) rfl (Or.inl ⟨by rfl, ?_⟩) (by assumption) ?_
                    rotate_left
                    · intro w hSw; (try dsimp only at hSw); go_simp; first | done | (with_reducible rfl)
                    simp only [Act.put, List.setIfInBounds_toArray, List.set_cons_zero, List.set_cons_succ]
                    refine wpAnyH_ready (rs := [2]) (by kernel_rfl) (by simp) ?_
                    refine AllReadyH.cons rfl (fun K hK => ?_) AllReadyH.nil
                    go_simp
                    go_wp2_with (go_at_call 9; (with_reducible refine (HOX.out 4 true (by decide) (by decide) _ (some ⟨g2, 0, none⟩) nz c2 _ hrx (by omega) q1 q2 (by intro h; cases h)).mono ?_); rintro e V2 ⟨rfl, hbc⟩)
                    have hT := hT.below hbc
                    clear hbc hrx
                    refine hK.out _ _ (hT) (fun hHeld => ?_)
                    clear hK K
                    refine tkq 3 (some 78) (v := ?_) rfl (Or.inl ⟨by rfl, ?_⟩) (by assumption) ?_
                    rotate_left
                    · intro w hSw; (try dsimp only at hSw); go_simp; first | done | (with_reducible rfl)
                    simp only [Act.put, List.setIfInBounds_toArray, List.set_cons_zero, List.set_cons_succ]
                    refine tkq 4 (some 79) (v := ?_) rfl (Or.inl ⟨by rfl, ?_⟩) (by assumption) ?_
                    rotate_left
                    · intro w hSw; (try dsimp only at hSw); go_simp; first | done | (with_reducible rfl)
                    simp only [Act.put, List.setIfInBounds_toArray, List.set_cons_zero, List.set_cons_succ]
                    refine tkq 5 (some 80) (v := ?_) rfl ?_ (by assumption) ?_
                    rotate_left
                    · refine yl_any 24 (.tmp 1) ?_ gy 0 ?_ [.int .u64 sk, .int .u64 mk] _ ?_ Try.underlying24 rfl ?_ ?_
                      · rfl
                      · rfl
                      · intro w hSw; exact hSw.nb.k.rangeAt
                      · exact rkt_info
                      · rfl
                    simp only [Act.put, List.setIfInBounds_toArray, List.set_cons_zero, List.set_cons_succ]
                    refine tkq 6 (some 81) (v := ?_) rfl (Or.inl ⟨by rfl, ?_⟩) (by assumption) ?_
                    rotate_left
                    · intro w hSw; (try dsimp only at hSw); go_simp; first | done | (with_reducible rfl)
                    simp only [Act.put, List.setIfInBounds_toArray, List.set_cons_zero, List.set_cons_succ]
                    refine tkq 7 (some 82) (v := ?_) rfl (Or.inl ⟨by rfl, ?_⟩) (by assumption) ?_
                    rotate_left
                    · intro w hSw; (try dsimp only at hSw); go_simp; first | done | (with_reducible rfl)
                    simp only [Act.put, List.setIfInBounds_toArray, List.set_cons_zero, List.set_cons_succ]
                    refine tkq 8 (some 83) (v := ?_) rfl (Or.inl ⟨by rfl, ?_⟩) (by assumption) ?_
                    rotate_left
                    · intro w hSw; (try dsimp only at hSw); go_simp; first | done | (with_reducible rfl)
                    simp only [Act.put, List.setIfInBounds_toArray, List.set_cons_zero, List.set_cons_succ]
                    refine wpAnyH_ready (rs := [9]) (by kernel_rfl) (by simp) ?_
                    refine AllReadyH.cons rfl (fun K hK => ?_) AllReadyH.nil
                    go_simp
                    go_wp2_with (go_at_call 9; (with_reducible refine (HOX.out 4 true (by decide) (by decide) _ (some ⟨g7, 0, none⟩) i c7 _ (hT.x.cutTo (by omega)) (by omega) (by omega) HP72.out (by intro h; cases h)).mono ?_); rintro e V9 ⟨rfl, hbc⟩)
                    have hT := hT.below hbc
                    clear hbc
                    refine hK.out _ _ (hT) (fun hHeld => ?_)
                    clear hK K
                    refine tkq 10 (some 85) (v := ?_) rfl (Or.inl ⟨by rfl, ?_⟩) (by assumption) ?_
                    rotate_left
                    · intro w hSw; (try dsimp only at hSw); go_simp; first | done | (with_reducible rfl)
                    simp only [Act.put, List.setIfInBounds_toArray, List.set_cons_zero, List.set_cons_succ]
                    refine tkq 11 (some 86) (v := ?_) rfl (Or.inl ⟨by rfl, ?_⟩) (by assumption) ?_
                    rotate_left
                    · intro w hSw; (try dsimp only at hSw); go_simp; first | done | (with_reducible rfl)
                    simp only [Act.put, List.setIfInBounds_toArray, List.set_cons_zero, List.set_cons_succ]
                    refine tkq 12 (some 87) (v := ?_) rfl (Or.inl ⟨by rfl, ?_⟩) (by assumption) ?_
                    rotate_left
                    · intro w hSw; (try dsimp only at hSw); go_simp; first | done | (with_reducible rfl)
                    simp only [Act.put, List.setIfInBounds_toArray, List.set_cons_zero, List.set_cons_succ]
                    refine tkq 13 (some 88) (v := ?_) rfl ?_ (by assumption) ?_
                    rotate_left
                    · refine yl_any 24 (.tmp 1) ?_ gy 0 ?_ [.int .u64 sk, .int .u64 mk] _ ?_ Try.underlying24 rfl ?_ ?_
                      · rfl
                      · rfl
                      · intro w hSw; exact hSw.nb.k.rangeAt
                      · exact rkt_info
                      · rfl
                    simp only [Act.put, List.setIfInBounds_toArray, List.set_cons_zero, List.set_cons_succ]
                    refine tkq 15 (some 90) (v := ?_) rfl (Or.inl ⟨by rfl, ?_⟩) (by assumption) ?_
                    rotate_left
                    · intro w hSw; (try dsimp only at hSw); go_simp; first | done | (with_reducible rfl)
                    simp only [Act.put, List.setIfInBounds_toArray, List.set_cons_zero, List.set_cons_succ]
                    refine tkq 17 (some 92) (v := ?_) rfl (Or.inl ⟨by rfl, ?_⟩) (by assumption) ?_
                    rotate_left
                    · intro w hSw; (try dsimp only at hSw); go_simp; first | done | (with_reducible rfl)
                    simp only [Act.put, List.setIfInBounds_toArray, List.set_cons_zero, List.set_cons_succ]
                    refine tkq 18 (some 93) (v := ?_) rfl (Or.inl ⟨by rfl, ?_⟩) (by assumption) ?_
                    rotate_left
                    · intro w hSw; (try dsimp only at hSw); go_simp; first | done | (with_reducible rfl)
                    simp only [Act.put, List.setIfInBounds_toArray, List.set_cons_zero, List.set_cons_succ]
                    refine tkq 19 (some 94) (v := ?_) rfl (Or.inl ⟨by rfl, ?_⟩) (by assumption) ?_
                    rotate_left
                    · intro w hSw; (try dsimp only at hSw); go_simp; first | done | (with_reducible rfl)
                    simp only [Act.put, List.setIfInBounds_toArray, List.set_cons_zero, List.set_cons_succ]
                    refine wpAnyH_ready (rs := [14]) (by kernel_rfl) (by simp) ?_
                    refine AllReadyH.cons rfl (fun K hK => ?_) AllReadyH.nil
                    go_simp
                    go_wp2_with (fail)
                    have hbl : Below V9.heap.size V9 (V9.alloc (.cells #[] 5)) := (Below.refl _ _).alloc (Nat.le_refl _) _
                    have ho14 : Own (V9.alloc (.cells #[] 5)) V9.heap.size 5 (.slice (some ⟨V9.heap.size, 0, none⟩) 0 0) [] := Own.of_block (n := 0) (cap := 0) Byt.nil rfl (heap_alloc_new V9 _) (Nat.le_refl _) (Nat.le_refl _) (Nat.zero_le _) rfl rfl
                    have hT14 := hT.below hbl
                    obtain ⟨W14, hW14⟩ : ∃ x, V9.alloc (.cells #[] 5) = x := ⟨_, rfl⟩
                    rw [hW14] at hbl ho14 hT14 ⊢
                    clear hW14
                    refine hK.out _ _ (hT14) (fun hHeld => ?_)
                    clear hK K
                    refine wpAnyH_ready (rs := [16]) (by kernel_rfl) (by simp) ?_
                    refine AllReadyH.cons rfl (fun K hK => ?_) AllReadyH.nil
                    refine step_append_at9 (by rfl) (.tmp 89) (.tmp 90) 28 (by rfl) V9.heap.size 5 i0 Try.underlying28 hi hz0 hz1 hz2 _ [] (by rfl) ho14 _ _ nz c7 Z (by rfl) hT14.x (by simp; omega) hbl.size ?_
                    intro v16 W16 ho16 hg16 _
                    have hb16 := grown_below9 ho14 hg16 hbl hbl.size
                    have hT16 := hT.below hb16
                    clear hg16 hT14 ho14 hbl
                    refine hK.out _ _ (hT16) (fun hHeld => ?_)
                    clear hK K
                    refine wpAnyH_ready (rs := [20]) (by kernel_rfl) (by simp) ?_
                    refine AllReadyH.cons rfl (fun K hK => ?_) AllReadyH.nil
                    refine step_append_at9 (by rfl) (.tmp 91) (.tmp 94) 28 (by rfl) V9.heap.size 5 i0 Try.underlying28 hi hz0 hz1 hz2 _ _ (by rfl) ho16 _ _ i c7 (Z.take i) (by rfl) (hT16.x.cutTo (by omega)) (by rw [List.nil_append, HNZ.out]; omega) hb16.size ?_
                    intro v20 W20 ho20 hg20 _
                    have hb20 := grown_below9 ho16 hg20 hb16 hb16.size
                    have hT20 := hT.below hb20
                    clear hg20 ho16 hb16 hT16 hb20
                    obtain ⟨X20, hX20⟩ : ∃ x, [] ++ Z ++ Z.take i = x := ⟨_, rfl⟩
                    have hl20 : X20.length = nz + i := by rw [← hX20, List.nil_append, List.length_append, HNZ.out, List.length_take, HNZ.out]; omega
                    rw [hX20] at ho20
                    obtain ⟨g20, c20, _, rfl, _, _, _, _, _, _⟩ := ho20.place (by omega)
                    obtain ⟨A21, c21, e21, r1, r2, r3⟩ := ho20.open_n (nz + i) hl20
                    rw [hl20] at e21 ⊢
                    injection e21 with e211 e212 e213
                    subst e211; subst e213
                    clear e212 hX20 ho20
                    refine hK.out _ _ (hT20) (fun hHeld => ?_)
                    clear hK K
                    refine wpAnyH_ready (rs := [21]) (by kernel_rfl) (by simp) ?_
                    refine AllReadyH.cons rfl (fun K hK => ?_) AllReadyH.nil
                    go_simp
                    go_wp2_with (go_at_call 9; (with_reducible refine (HOX.out 4 true (by decide) (by decide) _ (some ⟨g20, 0, none⟩) (nz + i) c20 _ r3 (by omega) r1 r2 (by intro h; cases h)).mono ?_); rintro e V21 ⟨rfl, hbc⟩)
                    have hT := hT20.below hbc
                    clear hbc hT20 r1 r2 r3
                    refine hK.out _ _ (hT) (fun hHeld => ?_)
                    clear hK K
                    refine tkq 22 (some 97) (v := ?_) rfl (Or.inl ⟨by rfl, ?_⟩) (by assumption) ?_
                    rotate_left
                    · intro w hSw; (try dsimp only at hSw); go_simp; first | done | (with_reducible rfl)
                    simp only [Act.put, List.setIfInBounds_toArray, List.set_cons_zero, List.set_cons_succ]
                    refine tkq 23 (some 98) (v := ?_) rfl (Or.inl ⟨by rfl, ?_⟩) (by assumption) ?_
                    rotate_left
                    · intro w hSw; (try dsimp only at hSw); go_simp; first | done | (with_reducible rfl)
                    simp only [Act.put, List.setIfInBounds_toArray, List.set_cons_zero, List.set_cons_succ]
                    refine wpAnyH_done (by kernel_rfl) ?_ _
                    have HT2 := Lib.hid hT
                    clear hT hHeld HOX
                    go_wp2_with fail
                    go_roundg (nz - (i + 1))
                    case measure => omega
                    case rel => exact ⟨i + 1, by simp, by omega, by omega, HT2⟩
                  · obtain rfl : i = nz := by omega
                    have hiz : ¬ (i : Int) < (i : Int) := by omega
                    have hOX := fun (l : Int) (has : Bool) (l0 : 0 ≤ l) (l1 : l < 18446744073709551616) W (hr : Rd W W.heap.size (some ⟨g7, 0, none⟩) i Z) => opens9_any sk mk l has (some ⟨g7, 0, none⟩) i c7 Z W hr (by omega) (by omega) HP72.out (by intro h; cases h) HKB.out.1.1 HKB.out.1.2 HKB.out.2.1.1 HKB.out.2.1.2 l0 l1
                    have hOY := fun W (hr : Rd W W.heap.size (some ⟨g7, 0, none⟩) i Z) => opens9_any so mo 4 true (some ⟨g7, 0, none⟩) i c7 Z W hr (by omega) (by omega) HP72.out (by intro h; cases h) HKB.out.2.2.1.1 HKB.out.2.2.1.2 HKB.out.2.2.2.1 HKB.out.2.2.2.2 (by decide) (by decide)
                    rw [hkk] at hOX
                    have hkk2 : kL so mo = [.int .u64 so, .int .u64 mo] := rfl
                    rw [hkk2] at hOY
                    have HOX := Lib.hid hOX
                    have HOY := Lib.hid hOY
                    clear hOX hOY hkk2
                    have kd0 : wr.cell? ⟨gy, 0, none⟩ = some (.int .u64 sk) := hC.out.nb.k.cell 0
                    have kd1 : wr.cell? ⟨gy, 1, none⟩ = some (.int .u64 mk) := hC.out.nb.k.cell 1
                    go_wp2_with (first
                      | (go_at_call 9; (with_reducible refine (HOX.out 0 false (by decide) (by decide) _ hC.out.x).mono ?_); rintro e V1 ⟨rfl, hbc⟩; have HT1 := Lib.hid (hC.out.below hbc); clear hbc)
                      | (go_at_call 6; (with_reducible refine (HOO.out _).mono ?_); rintro e V2 ⟨rfl, hbc⟩; have HT2 := Lib.hid (HT1.out.below hbc); clear hbc)
                      | (go_at_call 9; (with_reducible refine (HOY.out _ HT2.out.x).mono ?_); rintro e V3 ⟨rfl, hbc⟩; have HT3 := Lib.hid (HT2.out.below hbc); clear hbc; have ke0 : V3.cell? ⟨gy, 0, none⟩ = some (.int .u64 sk) := HT3.out.nb.k.cell 0; have ke1 : V3.cell? ⟨gy, 1, none⟩ = some (.int .u64 mk) := HT3.out.nb.k.cell 1)
                      | (go_at_call 9; (with_reducible refine (HOX.out 1099511627776 true (by decide) (by decide) _ HT3.out.x).mono ?_); rintro e V4 ⟨rfl, hbc⟩; have HT4 := Lib.hid (HT3.out.below hbc); clear hbc))
                    have HA4 : Hid (At V4 gy 24 [.int .u64 sk, .int .u64 mk] ∧ Below w.heap.size w V4) := Lib.hid ⟨HT4.out.nb.k, HT4.out.nb.b⟩
                    go_roundg (6 - (b + 1))
                    case measure => omega
                    case rel => exact ⟨b + 1, by simp, by omega, by omega, HA4⟩
        · obtain rfl : b = 6 := by omega
          go_wp2_with fail
          go_roundg (3 - (a + 1))
          case measure => omega
          case rel => exact ⟨a + 1, by simp, by omega, by omega, hA⟩
    · obtain rfl : a = 3 := by omega
      go_wp2_with (go_at_call 10; (with_reducible refine (known9_any _).mono ?_); rintro e w9 ⟨rfl, hb9⟩)
      go_ret
      exact ⟨rfl, hA.out.2.trans (hb9.mono hA.out.2.size)⟩
end Go.Proofs.Ytehdilgnlhhjdaa
