/-
  A frame that is right, as bytes, by the document's own answer (narthexref4.One): Crypto, Close, NewCID.
-/
import Derived.Test.YtkahndjflhgccaaFqo
import Derived.Deep.AppendLies
namespace Go.Proofs.Ytkahndjflhgccaa
set_option linter.unusedVariables false
set_option linter.unusedSimpArgs false
open Go.RowKit
/-- append of a row that is not empty, as a step of a region that draws its order. -/
theorem step_append_b {P : Program} {ops : Array Oper} {o : Oper} {a : Act} {w : World} {K : Act → World → Prop} {Q : Exit → Act → World → Prop} {E : Prop} (hgd : o.guard = none) (s x : Operand) (t : TypeId)
    (ho : o.op = .call { callee := .builtin .append, args := #[s, x], argTypes := #[t, t] })
    (base : Nat) (e : TypeId) (i : TypeInfo) (ht : P.underlying t = some (.slice e)) (hi : P.info? e = some i) (hz : i.zero = some (.int .u8 0)) (hsize : i.size = 1) (hby : i.bytes = 1)
    (v : Value) (bs : List Int) (hs : a.eval s = v) (hown : Own w base e v bs) (B : Nat) (A : Option Addr) (m c : Nat) (news : List Int) (hx : a.eval x = .slice A m c) (hr : Rd w B A m news) (hm : 0 < m)
    (hlen : bs.length + m ≤ 140737488355328) (w0 : World) (hb : Below base w0 w) (hbase : base ≤ w.heap.size)
    (h : ∀ v' w', Own w' base e v' (bs ++ news) → Below base w0 w' → w.grownBy w' v.ownBlock → K (a.put o.dst v') w') :
    if Region.wanted o (yielded ops a.tmps) = true then Oper.wp P o a w K Q else E := by
  obtain ⟨ad, rfl, hc⟩ := hr.cells hm
  refine step_append_lies w hgd s x t ho base e i (.int .u8 0) 1 1 ht hi hz hsize hby rfl (by decide) v bs.length (bs.map (Value.int .u8)) hs hown.1 ad m c (news.map (Value.int .u8)) hx (by simp [hr.1]) hc (oneCell_u8 news) hm (by unfold maxLen; omega) (by omega) hbase _ rfl ?_
  intro g cap w' h2 h3 _ _
  refine h _ _ ⟨?_, hown.2.app hr.2.1⟩ (hb.grown h3 hbase fun k hk => (hown.block_lt k hk).1) h3
  rw [List.map_append, List.length_append, hr.1]
  exact h2
set_option maxRecDepth 100000 in
set_option maxHeartbeats 2000000 in
theorem rone_6 (P : Nat → Prop) (s o l c f q y c0 c1 c2 c3 c4 c5 c6 c7 : Int) (fin : Bool) (dA : Option Addr) (dn dc : Nat) (rA : Option Addr) (rn rc : Nat) (ds : List Int) (rs : RS) (w : World) (hf : Fits w P ⟨6, s, o, fin, l, c, f, q, y, c0, c1, c2, c3, c4, c5, c6, c7⟩ ⟨dA, dn, dc⟩ ⟨rA, rn, rc⟩ ds rs) (hr : rightB ⟨6, s, o, fin, l, c, f, q, y, c0, c1, c2, c3, c4, c5, c6, c7⟩ ds rs = true) :
    Calls Try.prog 12 #[frV ⟨6, s, o, fin, l, c, f, q, y, c0, c1, c2, c3, c4, c5, c6, c7⟩ ⟨dA, dn, dc⟩ ⟨rA, rn, rc⟩] w (VPost w.heap.size (oneS ⟨6, s, o, fin, l, c, f, q, y, c0, c1, c2, c3, c4, c5, c6, c7⟩ ds rs) w) := by
  obtain ⟨hwf, hdt, hrg⟩ := hf
  have s0 := hwf.s0
  have o0 := hwf.o0
  have l0 := hwf.l0
  have c_0 := hwf.c0
  have f0 := hwf.f0
  have q0 := hwf.q0
  have y0 := hwf.y0
  have hcid : Byt (cidL ⟨6, s, o, fin, l, c, f, q, y, c0, c1, c2, c3, c4, c5, c6, c7⟩) := hwf.cid
  simp only at s0 o0 l0 c_0 f0 q0 y0
  rw [rightB_6 s o l c f q y c0 c1 c2 c3 c4 c5 c6 c7 fin ds rs dn hdt.rd.len s0 o0 l0 c_0 f0 q0 y0] at hr
  have hbd : o ≤ 1099511627776 ∧ dn ≤ 512 := by simp [smL] at hr; omega
  have hdr := hdt.rd.1
  simp only at hdr
  obtain ⟨E, hE⟩ : ∃ E, oneS ⟨6, s, o, fin, l, c, f, q, y, c0, c1, c2, c3, c4, c5, c6, c7⟩ ds rs = E := ⟨_, rfl⟩
  have HE : Hid (E = [] ++ putL [6] ++ putL [o] ++ textB ds) := Lib.hid (by rw [← hE]; simp [oneS, bodyS, wkS, putL, cidL])
  rw [hE]
  have hb0 : Below w.heap.size w (w.alloc (.cells #[.int .i64 6, .int .u64 s, .int .u64 o, .slice dA dn dc, .bool fin, .int .u64 l, .int .u64 c, .int .u64 f, .int .u64 q, .int .u64 y, .slice rA rn rc,
      .int .u8 c0, .int .u8 c1, .int .u8 c2, .int .u8 c3, .int .u8 c4, .int .u8 c5, .int .u8 c6, .int .u8 c7] 31)) := (Below.refl _ _).alloc (Nat.le_refl _) _
  have hA0 : At (w.alloc (.cells #[.int .i64 6, .int .u64 s, .int .u64 o, .slice dA dn dc, .bool fin, .int .u64 l, .int .u64 c, .int .u64 f, .int .u64 q, .int .u64 y, .slice rA rn rc,
      .int .u8 c0, .int .u8 c1, .int .u8 c2, .int .u8 c3, .int .u8 c4, .int .u8 c5, .int .u8 c6, .int .u8 c7] 31)) w.heap.size 31 (frL ⟨6, s, o, fin, l, c, f, q, y, c0, c1, c2, c3, c4, c5, c6, c7⟩ ⟨dA, dn, dc⟩ ⟨rA, rn, rc⟩) := At.new w _ _
  have hs0 : (w.alloc (.cells #[.int .i64 6, .int .u64 s, .int .u64 o, .slice dA dn dc, .bool fin, .int .u64 l, .int .u64 c, .int .u64 f, .int .u64 q, .int .u64 y, .slice rA rn rc,
      .int .u8 c0, .int .u8 c1, .int .u8 c2, .int .u8 c3, .int .u8 c4, .int .u8 c5, .int .u8 c6, .int .u8 c7] 31)).heap.size = w.heap.size + 1 := by simp
  have HA0 := Lib.hid hA0
  have HB0 := Lib.hid hb0
  have HS0 := Lib.hid hs0
  have HD := Lib.hid hdr
  have HCB := Lib.hid hcid
  simp only [frV, frL]
  have h1 := rvs_new none 0 0 [] [6] #[.int .u64 6] 1 (w.alloc (.cells #[.int .i64 6, .int .u64 s, .int .u64 o, .slice dA dn dc, .bool fin, .int .u64 l, .int .u64 c, .int .u64 f, .int .u64 q, .int .u64 y, .slice rA rn rc,
        .int .u8 c0, .int .u8 c1, .int .u8 c2, .int .u8 c3, .int .u8 c4, .int .u8 c5, .int .u8 c6, .int .u8 c7] 31)) w.heap.size (w.heap.size + 1) (by simp) (Rd.none_ _ _ _) (by decide) rfl (by intro x hx; simp at hx; omega) rfl (by decide) (by decide) (by omega)
  have H1 := Lib.hid h1
  clear h1 hb0 hA0 hs0 hwf hdt hrg hdr hr hE hcid
  go_enter Try.func12, Try.ntmps12
  go_wp2_with fail
  refine H1.out.mono ?_
  rintro e w1 ⟨A1, n1, a1, rfl, hn1, hO1, hR1, hB1⟩
  have hA1 := HA0.out.below hB1 (by rw [HS0.out]; omega)
  have hB1 := HB0.out.trans (hB1.mono (by rw [HS0.out]; omega))
  have hs1 := hB1.size
  have ek : w1.cell? ⟨w.heap.size, 0, none⟩ = some (.int .i64 6) := (hA1.cell 0).trans rfl
  have hg1 := hA1.lt
  have hm1 : n1 ≤ 100000 := by
    rw [← hn1]
    have := putL_len [(6 : Int)]
    simp only [List.length_append, List.length_cons, List.length_nil] at *
    omega
  have EX := Lib.hid (fun W (hA : At W w.heap.size 31 (frL ⟨6, s, o, fin, l, c, f, q, y, c0, c1, c2, c3, c4, c5, c6, c7⟩ ⟨dA, dn, dc⟩ ⟨rA, rn, rc⟩)) => (hA.cell 2).trans (show _ = some (Value.int .u64 o) from rfl))
  have ED := Lib.hid (fun W (hA : At W w.heap.size 31 (frL ⟨6, s, o, fin, l, c, f, q, y, c0, c1, c2, c3, c4, c5, c6, c7⟩ ⟨dA, dn, dc⟩ ⟨rA, rn, rc⟩)) => (hA.cell 3).trans (show _ = some (Value.slice dA dn dc) from rfl))
  go_wp2_with fail
  have hA2 : At w1.drew w.heap.size 31 (frL ⟨6, s, o, fin, l, c, f, q, y, c0, c1, c2, c3, c4, c5, c6, c7⟩ ⟨dA, dn, dc⟩ ⟨rA, rn, rc⟩) := hA1.drew
  have hR2 : Rd w1.drew w1.drew.heap.size A1 n1 ([] ++ putL [6]) := hR1.drew
  have hB2 : Below w.heap.size w w1.drew := belowN hB1 1
  clear hA1 hR1 hB1 hO1 hs1 hg1
  have hs2 := hB2.size
  refine wp_region_held_drew (S := (fun W => At W w.heap.size 31 (frL ⟨6, s, o, fin, l, c, f, q, y, c0, c1, c2, c3, c4, c5, c6, c7⟩ ⟨dA, dn, dc⟩ ⟨rA, rn, rc⟩))) (by kernel_rfl) (hA2) (fun hHeld => ?_)
  refine tkp 0 (some 97) (v := ?_) rfl (Or.inl ⟨by rfl, ?_⟩) (by assumption) ?_
  rotate_left
  · intro w hSw; (try dsimp only at hSw); (have qx := EX.out _ hSw); (have qd := ED.out _ hSw); go_simp; first | done | (with_reducible rfl)
  simp only [Act.put, List.setIfInBounds_toArray, List.set_cons_zero, List.set_cons_succ]
  refine tkp 1 (some 98) (v := ?_) rfl (Or.inl ⟨by rfl, ?_⟩) (by assumption) ?_
  rotate_left
  · intro w hSw; (try dsimp only at hSw); (have qx := EX.out _ hSw); (have qd := ED.out _ hSw); go_simp; first | done | (with_reducible rfl)
  simp only [Act.put, List.setIfInBounds_toArray, List.set_cons_zero, List.set_cons_succ]
  refine tkp 2 (some 99) (v := ?_) rfl (Or.inl ⟨by rfl, ?_⟩) (by assumption) ?_
  rotate_left
  · intro w hSw; (try dsimp only at hSw); (have qx := EX.out _ hSw); (have qd := ED.out _ hSw); go_simp; first | done | (with_reducible rfl)
  simp only [Act.put, List.setIfInBounds_toArray, List.set_cons_zero, List.set_cons_succ]
  refine tkp 5 (some 102) (v := ?_) rfl (Or.inl ⟨by rfl, ?_⟩) (by assumption) ?_
  rotate_left
  · intro w hSw; (try dsimp only at hSw); (have qx := EX.out _ hSw); (have qd := ED.out _ hSw); go_simp; first | done | (with_reducible rfl)
  simp only [Act.put, List.setIfInBounds_toArray, List.set_cons_zero, List.set_cons_succ]
  refine tkp 6 (some 103) (v := ?_) rfl (Or.inl ⟨by rfl, ?_⟩) (by assumption) ?_
  rotate_left
  · intro w hSw; (try dsimp only at hSw); (have qx := EX.out _ hSw); (have qd := ED.out _ hSw); go_simp; first | done | (with_reducible rfl)
  simp only [Act.put, List.setIfInBounds_toArray, List.set_cons_zero, List.set_cons_succ]
  refine wpAnyH_ready (rs := [3]) (by kernel_rfl) (by simp) ?_
  refine AllReadyH.cons rfl (fun K hK => ?_) AllReadyH.nil
  go_simp
  go_wp2_with (fail)
  refine hK.out _ _ (hA2.alloc _) (fun hHeld => ?_)
  clear hK K
  refine wpAnyH_ready (rs := [4]) (by kernel_rfl) (by simp) ?_
  refine AllReadyH.cons rfl (fun K hK => ?_) AllReadyH.nil
  go_simp
  go_wp2_with ((go_at_call 35; refine (rvs_new A1 n1 a1 ([] ++ putL [6]) [o] _ 1 w1.drew w.heap.size _ rfl hR2 (by omega) rfl (by intro x hx; simp at hx; omega) rfl (by decide) (by decide) (by omega)).mono ?_; rintro e w3 ⟨A3, n3, a3, rfl, hn3, hO3, hR3, hB3⟩; have hA3 := hA2.below hB3 hA2.lt; have hB4 := hB2.trans (hB3.mono hB2.size); have hm3 : n3 ≤ 10000 := by (rw [← hn3]; have h1 := putL_len [(6 : Int)]; have h2 := putL_len [o]; simp only [List.length_append, List.length_cons, List.length_nil] at *; omega)))
  refine hK.out _ _ (hA3) (fun hHeld => ?_)
  clear hK K
  refine wpAnyH_ready (rs := [7]) (by kernel_rfl) (by simp) ?_
  refine AllReadyH.cons rfl (fun K hK => ?_) AllReadyH.nil
  go_simp
  go_wp2_with ((go_at_call 36; refine (rtx_new A3 n3 a3 _ dA dn dc ds _ w.heap.size hR3 ((HD.out.below hB4).more hB4.size) (by omega) (by omega) hB4.size).mono ?_; rintro e w5 ⟨A5, n5, a5, rfl, hn5, hO5, hR5, hB5⟩; have hA5 := hA3.below hB5 hA3.lt; have hB6 := hB4.trans (hB5.mono hB4.size)))
  refine hK.out _ _ (hA5) (fun hHeld => ?_)
  clear hK K
  refine tkp 8 (some 3) (v := ?_) rfl (Or.inl ⟨by rfl, ?_⟩) (by assumption) ?_
  rotate_left
  · intro w hSw; (try dsimp only at hSw); (have qx := EX.out _ hSw); (have qd := ED.out _ hSw); go_simp; first | done | (with_reducible rfl)
  simp only [Act.put, List.setIfInBounds_toArray, List.set_cons_zero, List.set_cons_succ]
  refine wpAnyH_done (by kernel_rfl) ?_ _
  go_wp2_with fail
  go_ret
  rw [HE.out]
  exact ⟨A5, n5, a5, rfl, hn5, hO5, hR5, hB6⟩
set_option maxRecDepth 100000 in
set_option maxHeartbeats 2000000 in
theorem rone_28 (P : Nat → Prop) (s o l c f q y c0 c1 c2 c3 c4 c5 c6 c7 : Int) (fin : Bool) (dA : Option Addr) (dn dc : Nat) (rA : Option Addr) (rn rc : Nat) (ds : List Int) (rs : RS) (w : World) (hf : Fits w P ⟨28, s, o, fin, l, c, f, q, y, c0, c1, c2, c3, c4, c5, c6, c7⟩ ⟨dA, dn, dc⟩ ⟨rA, rn, rc⟩ ds rs) (hr : rightB ⟨28, s, o, fin, l, c, f, q, y, c0, c1, c2, c3, c4, c5, c6, c7⟩ ds rs = true) :
    Calls Try.prog 12 #[frV ⟨28, s, o, fin, l, c, f, q, y, c0, c1, c2, c3, c4, c5, c6, c7⟩ ⟨dA, dn, dc⟩ ⟨rA, rn, rc⟩] w (VPost w.heap.size (oneS ⟨28, s, o, fin, l, c, f, q, y, c0, c1, c2, c3, c4, c5, c6, c7⟩ ds rs) w) := by
  obtain ⟨hwf, hdt, hrg⟩ := hf
  have s0 := hwf.s0
  have o0 := hwf.o0
  have l0 := hwf.l0
  have c_0 := hwf.c0
  have f0 := hwf.f0
  have q0 := hwf.q0
  have y0 := hwf.y0
  have hcid : Byt (cidL ⟨28, s, o, fin, l, c, f, q, y, c0, c1, c2, c3, c4, c5, c6, c7⟩) := hwf.cid
  simp only at s0 o0 l0 c_0 f0 q0 y0
  rw [rightB_28 s o l c f q y c0 c1 c2 c3 c4 c5 c6 c7 fin ds rs dn hdt.rd.len s0 o0 l0 c_0 f0 q0 y0] at hr
  have hbd : c ≤ 4611686018427387903 ∧ dn ≤ 32 := by simp [smL] at hr; omega
  have hdr := hdt.rd.1
  simp only at hdr
  obtain ⟨E, hE⟩ : ∃ E, oneS ⟨28, s, o, fin, l, c, f, q, y, c0, c1, c2, c3, c4, c5, c6, c7⟩ ds rs = E := ⟨_, rfl⟩
  have HE : Hid (E = [] ++ putL [28] ++ putL [c] ++ textB ds) := Lib.hid (by rw [← hE]; simp [oneS, bodyS, wkS, putL, cidL])
  rw [hE]
  have hb0 : Below w.heap.size w (w.alloc (.cells #[.int .i64 28, .int .u64 s, .int .u64 o, .slice dA dn dc, .bool fin, .int .u64 l, .int .u64 c, .int .u64 f, .int .u64 q, .int .u64 y, .slice rA rn rc,
      .int .u8 c0, .int .u8 c1, .int .u8 c2, .int .u8 c3, .int .u8 c4, .int .u8 c5, .int .u8 c6, .int .u8 c7] 31)) := (Below.refl _ _).alloc (Nat.le_refl _) _
  have hA0 : At (w.alloc (.cells #[.int .i64 28, .int .u64 s, .int .u64 o, .slice dA dn dc, .bool fin, .int .u64 l, .int .u64 c, .int .u64 f, .int .u64 q, .int .u64 y, .slice rA rn rc,
      .int .u8 c0, .int .u8 c1, .int .u8 c2, .int .u8 c3, .int .u8 c4, .int .u8 c5, .int .u8 c6, .int .u8 c7] 31)) w.heap.size 31 (frL ⟨28, s, o, fin, l, c, f, q, y, c0, c1, c2, c3, c4, c5, c6, c7⟩ ⟨dA, dn, dc⟩ ⟨rA, rn, rc⟩) := At.new w _ _
  have hs0 : (w.alloc (.cells #[.int .i64 28, .int .u64 s, .int .u64 o, .slice dA dn dc, .bool fin, .int .u64 l, .int .u64 c, .int .u64 f, .int .u64 q, .int .u64 y, .slice rA rn rc,
      .int .u8 c0, .int .u8 c1, .int .u8 c2, .int .u8 c3, .int .u8 c4, .int .u8 c5, .int .u8 c6, .int .u8 c7] 31)).heap.size = w.heap.size + 1 := by simp
  have HA0 := Lib.hid hA0
  have HB0 := Lib.hid hb0
  have HS0 := Lib.hid hs0
  have HD := Lib.hid hdr
  have HCB := Lib.hid hcid
  simp only [frV, frL]
  have h1 := rvs_new none 0 0 [] [28] #[.int .u64 28] 1 (w.alloc (.cells #[.int .i64 28, .int .u64 s, .int .u64 o, .slice dA dn dc, .bool fin, .int .u64 l, .int .u64 c, .int .u64 f, .int .u64 q, .int .u64 y, .slice rA rn rc,
        .int .u8 c0, .int .u8 c1, .int .u8 c2, .int .u8 c3, .int .u8 c4, .int .u8 c5, .int .u8 c6, .int .u8 c7] 31)) w.heap.size (w.heap.size + 1) (by simp) (Rd.none_ _ _ _) (by decide) rfl (by intro x hx; simp at hx; omega) rfl (by decide) (by decide) (by omega)
  have H1 := Lib.hid h1
  clear h1 hb0 hA0 hs0 hwf hdt hrg hdr hr hE hcid
  go_enter Try.func12, Try.ntmps12
  go_wp2_with fail
  refine H1.out.mono ?_
  rintro e w1 ⟨A1, n1, a1, rfl, hn1, hO1, hR1, hB1⟩
  have hA1 := HA0.out.below hB1 (by rw [HS0.out]; omega)
  have hB1 := HB0.out.trans (hB1.mono (by rw [HS0.out]; omega))
  have hs1 := hB1.size
  have ek : w1.cell? ⟨w.heap.size, 0, none⟩ = some (.int .i64 28) := (hA1.cell 0).trans rfl
  have hg1 := hA1.lt
  have hm1 : n1 ≤ 100000 := by
    rw [← hn1]
    have := putL_len [(28 : Int)]
    simp only [List.length_append, List.length_cons, List.length_nil] at *
    omega
  have EX := Lib.hid (fun W (hA : At W w.heap.size 31 (frL ⟨28, s, o, fin, l, c, f, q, y, c0, c1, c2, c3, c4, c5, c6, c7⟩ ⟨dA, dn, dc⟩ ⟨rA, rn, rc⟩)) => (hA.cell 6).trans (show _ = some (Value.int .u64 c) from rfl))
  have ED := Lib.hid (fun W (hA : At W w.heap.size 31 (frL ⟨28, s, o, fin, l, c, f, q, y, c0, c1, c2, c3, c4, c5, c6, c7⟩ ⟨dA, dn, dc⟩ ⟨rA, rn, rc⟩)) => (hA.cell 3).trans (show _ = some (Value.slice dA dn dc) from rfl))
  go_wp2_with fail
  have hA2 : At w1.drew w.heap.size 31 (frL ⟨28, s, o, fin, l, c, f, q, y, c0, c1, c2, c3, c4, c5, c6, c7⟩ ⟨dA, dn, dc⟩ ⟨rA, rn, rc⟩) := hA1.drew
  have hR2 : Rd w1.drew w1.drew.heap.size A1 n1 ([] ++ putL [28]) := hR1.drew
  have hB2 : Below w.heap.size w w1.drew := belowN hB1 1
  clear hA1 hR1 hB1 hO1 hs1 hg1
  have hs2 := hB2.size
  refine wp_region_held_drew (S := (fun W => At W w.heap.size 31 (frL ⟨28, s, o, fin, l, c, f, q, y, c0, c1, c2, c3, c4, c5, c6, c7⟩ ⟨dA, dn, dc⟩ ⟨rA, rn, rc⟩))) (by kernel_rfl) (hA2) (fun hHeld => ?_)
  refine tkp 0 (some 181) (v := ?_) rfl (Or.inl ⟨by rfl, ?_⟩) (by assumption) ?_
  rotate_left
  · intro w hSw; (try dsimp only at hSw); (have qx := EX.out _ hSw); (have qd := ED.out _ hSw); go_simp; first | done | (with_reducible rfl)
  simp only [Act.put, List.setIfInBounds_toArray, List.set_cons_zero, List.set_cons_succ]
  refine tkp 1 (some 182) (v := ?_) rfl (Or.inl ⟨by rfl, ?_⟩) (by assumption) ?_
  rotate_left
  · intro w hSw; (try dsimp only at hSw); (have qx := EX.out _ hSw); (have qd := ED.out _ hSw); go_simp; first | done | (with_reducible rfl)
  simp only [Act.put, List.setIfInBounds_toArray, List.set_cons_zero, List.set_cons_succ]
  refine tkp 2 (some 183) (v := ?_) rfl (Or.inl ⟨by rfl, ?_⟩) (by assumption) ?_
  rotate_left
  · intro w hSw; (try dsimp only at hSw); (have qx := EX.out _ hSw); (have qd := ED.out _ hSw); go_simp; first | done | (with_reducible rfl)
  simp only [Act.put, List.setIfInBounds_toArray, List.set_cons_zero, List.set_cons_succ]
  refine tkp 5 (some 186) (v := ?_) rfl (Or.inl ⟨by rfl, ?_⟩) (by assumption) ?_
  rotate_left
  · intro w hSw; (try dsimp only at hSw); (have qx := EX.out _ hSw); (have qd := ED.out _ hSw); go_simp; first | done | (with_reducible rfl)
  simp only [Act.put, List.setIfInBounds_toArray, List.set_cons_zero, List.set_cons_succ]
  refine tkp 6 (some 187) (v := ?_) rfl (Or.inl ⟨by rfl, ?_⟩) (by assumption) ?_
  rotate_left
  · intro w hSw; (try dsimp only at hSw); (have qx := EX.out _ hSw); (have qd := ED.out _ hSw); go_simp; first | done | (with_reducible rfl)
  simp only [Act.put, List.setIfInBounds_toArray, List.set_cons_zero, List.set_cons_succ]
  refine wpAnyH_ready (rs := [3]) (by kernel_rfl) (by simp) ?_
  refine AllReadyH.cons rfl (fun K hK => ?_) AllReadyH.nil
  go_simp
  go_wp2_with (fail)
  refine hK.out _ _ (hA2.alloc _) (fun hHeld => ?_)
  clear hK K
  refine wpAnyH_ready (rs := [4]) (by kernel_rfl) (by simp) ?_
  refine AllReadyH.cons rfl (fun K hK => ?_) AllReadyH.nil
  go_simp
  go_wp2_with ((go_at_call 35; refine (rvs_new A1 n1 a1 ([] ++ putL [28]) [c] _ 1 w1.drew w.heap.size _ rfl hR2 (by omega) rfl (by intro x hx; simp at hx; omega) rfl (by decide) (by decide) (by omega)).mono ?_; rintro e w3 ⟨A3, n3, a3, rfl, hn3, hO3, hR3, hB3⟩; have hA3 := hA2.below hB3 hA2.lt; have hB4 := hB2.trans (hB3.mono hB2.size); have hm3 : n3 ≤ 10000 := by (rw [← hn3]; have h1 := putL_len [(28 : Int)]; have h2 := putL_len [c]; simp only [List.length_append, List.length_cons, List.length_nil] at *; omega)))
  refine hK.out _ _ (hA3) (fun hHeld => ?_)
  clear hK K
  refine wpAnyH_ready (rs := [7]) (by kernel_rfl) (by simp) ?_
  refine AllReadyH.cons rfl (fun K hK => ?_) AllReadyH.nil
  go_simp
  go_wp2_with ((go_at_call 36; refine (rtx_new A3 n3 a3 _ dA dn dc ds _ w.heap.size hR3 ((HD.out.below hB4).more hB4.size) (by omega) (by omega) hB4.size).mono ?_; rintro e w5 ⟨A5, n5, a5, rfl, hn5, hO5, hR5, hB5⟩; have hA5 := hA3.below hB5 hA3.lt; have hB6 := hB4.trans (hB5.mono hB4.size)))
  refine hK.out _ _ (hA5) (fun hHeld => ?_)
  clear hK K
  refine tkp 8 (some 3) (v := ?_) rfl (Or.inl ⟨by rfl, ?_⟩) (by assumption) ?_
  rotate_left
  · intro w hSw; (try dsimp only at hSw); (have qx := EX.out _ hSw); (have qd := ED.out _ hSw); go_simp; first | done | (with_reducible rfl)
  simp only [Act.put, List.setIfInBounds_toArray, List.set_cons_zero, List.set_cons_succ]
  refine wpAnyH_done (by kernel_rfl) ?_ _
  go_wp2_with fail
  go_ret
  rw [HE.out]
  exact ⟨A5, n5, a5, rfl, hn5, hO5, hR5, hB6⟩
set_option maxRecDepth 100000 in
set_option maxHeartbeats 2000000 in
theorem rone_24 (P : Nat → Prop) (s o l c f q y c0 c1 c2 c3 c4 c5 c6 c7 : Int) (fin : Bool) (dA : Option Addr) (dn dc : Nat) (rA : Option Addr) (rn rc : Nat) (ds : List Int) (rs : RS) (w : World) (hf : Fits w P ⟨24, s, o, fin, l, c, f, q, y, c0, c1, c2, c3, c4, c5, c6, c7⟩ ⟨dA, dn, dc⟩ ⟨rA, rn, rc⟩ ds rs) (hr : rightB ⟨24, s, o, fin, l, c, f, q, y, c0, c1, c2, c3, c4, c5, c6, c7⟩ ds rs = true) :
    Calls Try.prog 12 #[frV ⟨24, s, o, fin, l, c, f, q, y, c0, c1, c2, c3, c4, c5, c6, c7⟩ ⟨dA, dn, dc⟩ ⟨rA, rn, rc⟩] w (VPost w.heap.size (oneS ⟨24, s, o, fin, l, c, f, q, y, c0, c1, c2, c3, c4, c5, c6, c7⟩ ds rs) w) := by
  obtain ⟨hwf, hdt, hrg⟩ := hf
  have s0 := hwf.s0
  have o0 := hwf.o0
  have l0 := hwf.l0
  have c_0 := hwf.c0
  have f0 := hwf.f0
  have q0 := hwf.q0
  have y0 := hwf.y0
  have hcid : Byt (cidL ⟨24, s, o, fin, l, c, f, q, y, c0, c1, c2, c3, c4, c5, c6, c7⟩) := hwf.cid
  simp only at s0 o0 l0 c_0 f0 q0 y0
  rw [rightB_24 s o l c f q y c0 c1 c2 c3 c4 c5 c6 c7 fin ds rs dn hdt.rd.len s0 o0 l0 c_0 f0 q0 y0] at hr
  have hbd : q ≤ 4611686018427387903 ∧ l ≤ 4611686018427387903 := by simp [smL] at hr; omega
  have hdr := hdt.rd.1
  simp only at hdr
  obtain ⟨E, hE⟩ : ∃ E, oneS ⟨24, s, o, fin, l, c, f, q, y, c0, c1, c2, c3, c4, c5, c6, c7⟩ ds rs = E := ⟨_, rfl⟩
  have HE : Hid (E = [] ++ putL [24] ++ putL [q, l] ++ [8] ++ cidL ⟨24, s, o, fin, l, c, f, q, y, c0, c1, c2, c3, c4, c5, c6, c7⟩) := Lib.hid (by rw [← hE]; simp [oneS, bodyS, wkS, putL, cidL])
  rw [hE]
  have hb0 : Below w.heap.size w (w.alloc (.cells #[.int .i64 24, .int .u64 s, .int .u64 o, .slice dA dn dc, .bool fin, .int .u64 l, .int .u64 c, .int .u64 f, .int .u64 q, .int .u64 y, .slice rA rn rc,
      .int .u8 c0, .int .u8 c1, .int .u8 c2, .int .u8 c3, .int .u8 c4, .int .u8 c5, .int .u8 c6, .int .u8 c7] 31)) := (Below.refl _ _).alloc (Nat.le_refl _) _
  have hA0 : At (w.alloc (.cells #[.int .i64 24, .int .u64 s, .int .u64 o, .slice dA dn dc, .bool fin, .int .u64 l, .int .u64 c, .int .u64 f, .int .u64 q, .int .u64 y, .slice rA rn rc,
      .int .u8 c0, .int .u8 c1, .int .u8 c2, .int .u8 c3, .int .u8 c4, .int .u8 c5, .int .u8 c6, .int .u8 c7] 31)) w.heap.size 31 (frL ⟨24, s, o, fin, l, c, f, q, y, c0, c1, c2, c3, c4, c5, c6, c7⟩ ⟨dA, dn, dc⟩ ⟨rA, rn, rc⟩) := At.new w _ _
  have hs0 : (w.alloc (.cells #[.int .i64 24, .int .u64 s, .int .u64 o, .slice dA dn dc, .bool fin, .int .u64 l, .int .u64 c, .int .u64 f, .int .u64 q, .int .u64 y, .slice rA rn rc,
      .int .u8 c0, .int .u8 c1, .int .u8 c2, .int .u8 c3, .int .u8 c4, .int .u8 c5, .int .u8 c6, .int .u8 c7] 31)).heap.size = w.heap.size + 1 := by simp
  have HA0 := Lib.hid hA0
  have HB0 := Lib.hid hb0
  have HS0 := Lib.hid hs0
  have HD := Lib.hid hdr
  have HCB := Lib.hid hcid
  simp only [frV, frL]
  obtain ⟨i0, hi, hz0, hz1, hz2⟩ := info_parts u8_info
  have h1 := rvs_new none 0 0 [] [24] #[.int .u64 24] 1 (w.alloc (.cells #[.int .i64 24, .int .u64 s, .int .u64 o, .slice dA dn dc, .bool fin, .int .u64 l, .int .u64 c, .int .u64 f, .int .u64 q, .int .u64 y, .slice rA rn rc,
        .int .u8 c0, .int .u8 c1, .int .u8 c2, .int .u8 c3, .int .u8 c4, .int .u8 c5, .int .u8 c6, .int .u8 c7] 31)) w.heap.size (w.heap.size + 1) (by simp) (Rd.none_ _ _ _) (by decide) rfl (by intro x hx; simp at hx; omega) rfl (by decide) (by decide) (by omega)
  have H1 := Lib.hid h1
  clear h1 hb0 hA0 hs0 hwf hdt hrg hdr hr hE hcid
  go_enter Try.func12, Try.ntmps12
  go_wp2_with fail
  refine H1.out.mono ?_
  rintro e w1 ⟨A1, n1, a1, rfl, hn1, hO1, hR1, hB1⟩
  have hA1 := HA0.out.below hB1 (by rw [HS0.out]; omega)
  have hB1 := HB0.out.trans (hB1.mono (by rw [HS0.out]; omega))
  have hs1 := hB1.size
  have ek : w1.cell? ⟨w.heap.size, 0, none⟩ = some (.int .i64 24) := (hA1.cell 0).trans rfl
  have hg1 := hA1.lt
  have hm1 : n1 ≤ 100000 := by
    rw [← hn1]
    have := putL_len [(24 : Int)]
    simp only [List.length_append, List.length_cons, List.length_nil] at *
    omega
  have EQ := Lib.hid (fun W (hA : At W w.heap.size 31 (frL ⟨24, s, o, fin, l, c, f, q, y, c0, c1, c2, c3, c4, c5, c6, c7⟩ ⟨dA, dn, dc⟩ ⟨rA, rn, rc⟩)) => (hA.cell 8).trans (show _ = some (Value.int .u64 q) from rfl))
  have EL := Lib.hid (fun W (hA : At W w.heap.size 31 (frL ⟨24, s, o, fin, l, c, f, q, y, c0, c1, c2, c3, c4, c5, c6, c7⟩ ⟨dA, dn, dc⟩ ⟨rA, rn, rc⟩)) => (hA.cell 5).trans (show _ = some (Value.int .u64 l) from rfl))
  have hby : Byt [8] := Byt.one (by decide)
  have hsm : smL [q, l] = true := by simp [smL]; omega
  have HSM := Lib.hid hsm
  obtain ⟨n3, hn3⟩ : ∃ k, ([] ++ putL [24] ++ putL [q, l]).length = k := ⟨_, rfl⟩
  obtain ⟨n6, hn6⟩ : ∃ k, ([] ++ putL [24] ++ putL [q, l] ++ [8] ++ cidL ⟨24, s, o, fin, l, c, f, q, y, c0, c1, c2, c3, c4, c5, c6, c7⟩).length = k := ⟨_, rfl⟩
  have hm3 : n3 ≤ 10000 := by
    rw [← hn3]
    have h1 := putL_len [(24 : Int)]
    have h2 := putL_len [q, l]
    simp only [List.length_append, List.length_cons, List.length_nil] at *
    omega
  have HN3 := Lib.hid hn3
  have HN6 := Lib.hid hn6
  clear hn3 hn6 hsm
  go_wp2_with fail
  have hA2 : At w1.drew w.heap.size 31 (frL ⟨24, s, o, fin, l, c, f, q, y, c0, c1, c2, c3, c4, c5, c6, c7⟩ ⟨dA, dn, dc⟩ ⟨rA, rn, rc⟩) := hA1.drew
  have hR2 : Rd w1.drew w1.drew.heap.size A1 n1 ([] ++ putL [24]) := hR1.drew
  have hB2 : Below w.heap.size w w1.drew := belowN hB1 1
  clear hA1 hR1 hB1 hO1 hs1 hg1 hn1 ek
  refine wp_region_held_drew (S := (fun W => At W w.heap.size 31 (frL ⟨24, s, o, fin, l, c, f, q, y, c0, c1, c2, c3, c4, c5, c6, c7⟩ ⟨dA, dn, dc⟩ ⟨rA, rn, rc⟩))) (by kernel_rfl) (hA2) (fun hHeld => ?_)
  clear hHeld
  obtain ⟨W2, hW2⟩ : ∃ x, w1.drew = x := ⟨_, rfl⟩
  rw [hW2] at hA2 hR2 hB2 ⊢
  clear hW2
  refine tkp 0 (some 153) (v := ?_) rfl (Or.inl ⟨by rfl, ?_⟩) (by assumption) ?_
  rotate_left
  · intro w hSw; (try dsimp only at hSw); (have qx := EQ.out _ hSw); (have qd := EL.out _ hSw); go_simp; first | done | (with_reducible rfl)
  simp only [Act.put, List.setIfInBounds_toArray, List.set_cons_zero, List.set_cons_succ]
  refine tkp 1 (some 154) (v := ?_) rfl (Or.inl ⟨by rfl, ?_⟩) (by assumption) ?_
  rotate_left
  · intro w hSw; (try dsimp only at hSw); (have qx := EQ.out _ hSw); (have qd := EL.out _ hSw); go_simp; first | done | (with_reducible rfl)
  simp only [Act.put, List.setIfInBounds_toArray, List.set_cons_zero, List.set_cons_succ]
  refine tkp 2 (some 155) (v := ?_) rfl (Or.inl ⟨by rfl, ?_⟩) (by assumption) ?_
  rotate_left
  · intro w hSw; (try dsimp only at hSw); (have qx := EQ.out _ hSw); (have qd := EL.out _ hSw); go_simp; first | done | (with_reducible rfl)
  simp only [Act.put, List.setIfInBounds_toArray, List.set_cons_zero, List.set_cons_succ]
  refine tkp 3 (some 156) (v := ?_) rfl (Or.inl ⟨by rfl, ?_⟩) (by assumption) ?_
  rotate_left
  · intro w hSw; (try dsimp only at hSw); (have qx := EQ.out _ hSw); (have qd := EL.out _ hSw); go_simp; first | done | (with_reducible rfl)
  simp only [Act.put, List.setIfInBounds_toArray, List.set_cons_zero, List.set_cons_succ]
  refine tkp 4 (some 157) (v := ?_) rfl (Or.inl ⟨by rfl, ?_⟩) (by assumption) ?_
  rotate_left
  · intro w hSw; (try dsimp only at hSw); (have qx := EQ.out _ hSw); (have qd := EL.out _ hSw); go_simp; first | done | (with_reducible rfl)
  simp only [Act.put, List.setIfInBounds_toArray, List.set_cons_zero, List.set_cons_succ]
  refine tkp 9 (some 162) (v := ?_) rfl (Or.inl ⟨by rfl, ?_⟩) (by assumption) ?_
  rotate_left
  · intro w hSw; (try dsimp only at hSw); (have qx := EQ.out _ hSw); (have qd := EL.out _ hSw); go_simp; first | done | (with_reducible rfl)
  simp only [Act.put, List.setIfInBounds_toArray, List.set_cons_zero, List.set_cons_succ]
  refine tkp 10 (some 163) (v := ?_) rfl (Or.inl ⟨by rfl, ?_⟩) (by assumption) ?_
  rotate_left
  · intro w hSw; (try dsimp only at hSw); (have qx := EQ.out _ hSw); (have qd := EL.out _ hSw); go_simp; first | done | (with_reducible rfl)
  simp only [Act.put, List.setIfInBounds_toArray, List.set_cons_zero, List.set_cons_succ]
  refine wpAnyH_ready (rs := [5, 7]) (by kernel_rfl) (by simp) ?_
  refine AllReadyH.cons rfl (fun K hK => ?_) (AllReadyH.cons rfl (fun K hK => ?_) AllReadyH.nil)
  ·
    go_simp
    go_wp2_with (fail)
    refine hK.out _ _ (hA2.alloc _) (fun hHeld => ?_)
    clear hK K
    have hb3 : Below W2.heap.size W2 (W2.alloc (.cells #[.int .u64 q, .int .u64 l] 25)) := (Below.refl _ _).alloc (Nat.le_refl _) _
    have hU3 := UsP.new W2 (fun _ => True) 25 [q, l] (by intro x hx; simp at hx; omega) _ rfl W2.heap.size rfl trivial
    simp only [List.map_cons, List.map_nil, List.length_cons, List.length_nil] at hU3
    obtain ⟨W3, hW3⟩ : ∃ x, W2.alloc (.cells #[.int .u64 q, .int .u64 l] 25) = x := ⟨_, rfl⟩
    rw [hW3] at hb3 hU3 ⊢
    clear hW3 hHeld
    have hA3 := hA2.below hb3 hA2.lt
    have hB3 := hB2.trans (hb3.mono hB2.size)
    have hR3 := (hR2.below hb3).more hb3.size
    clear hb3
    refine wpAnyH_ready (rs := [6, 7]) (by kernel_rfl) (by simp) ?_
    refine AllReadyH.cons rfl (fun K hK => ?_) (AllReadyH.cons rfl (fun K hK => ?_) AllReadyH.nil)
    ·
      go_simp
      go_wp2_with ((go_at_call 35; refine (rvs_any (fun _ => True) A1 n1 a1 ([] ++ putL [24]) _ 2 2 [q, l] W3 (w.heap.size + 1) hR3 (by omega) hU3 (by decide) (by decide) (by decide) HSM.out hA3.lt).mono ?_; rintro e W4 ⟨v4, rfl, hO4, hb4⟩; obtain ⟨A3, a3, rfl, _, _, _⟩ := hO4.open_n n3 HN3.out))
      refine hK.out _ _ (hA3.below hb4 hA3.lt) (fun hHeld => ?_)
      clear hK K hHeld
      have hA4 := hA3.below hb4 hA3.lt
      have hB4 := hB3.trans (hb4.mono hB3.size)
      clear hb4
      refine wpAnyH_ready (rs := [7]) (by kernel_rfl) (by simp) ?_
      refine AllReadyH.cons rfl (fun K hK => ?_) AllReadyH.nil
      go_simp
      go_wp2_with (fail)
      refine hK.out _ _ (hA4.alloc _) (fun hHeld => ?_)
      clear hK K
      have hb5 : Below W4.heap.size W4 (W4.alloc (.cells #[.int .u8 8] 5)) := (Below.refl _ _).alloc (Nat.le_refl _) _
      have hL5 := Rd.lit W4 5 [8] hby #[.int .u8 8] rfl
      have hL5 := hL5.more (B' := (W4.alloc (.cells #[.int .u8 8] 5)).heap.size) (by simp)
      obtain ⟨W5, hW5⟩ : ∃ x, W4.alloc (.cells #[.int .u8 8] 5) = x := ⟨_, rfl⟩
      rw [hW5] at hb5 hL5 ⊢
      clear hW5 hHeld
      have hA5 := hA4.below hb5 hA4.lt
      have hB5 := hB4.trans (hb5.mono hB4.size)
      have hO5 := hO4.below hb5 (Nat.le_refl _)
      clear hb5
      refine wpAnyH_ready (rs := [8]) (by kernel_rfl) (by simp) ?_
      refine AllReadyH.cons rfl (fun K hK => ?_) AllReadyH.nil
      refine step_append_b rfl (.tmp 159) (.tmp 160) 26 rfl (w.heap.size + 1) 5 i0 Try.underlying26 hi hz0 hz1 hz2 _ _ rfl hO5 _ _ 1 1 [8] rfl hL5 (by decide) (by rw [HN3.out]; omega) _ (Below.refl _ _) hA5.lt ?_
      intro v6 W6 hO6 hb6 hgr
      refine hK.out _ _ (hA5.below hb6 (by omega)) (fun hHeld => ?_)
      clear hK K hHeld hgr
      have hA6 := hA5.below hb6 (by omega)
      have hB6 := hB5.trans (hb6.mono (by omega))
      refine wpAnyH_ready (rs := [11]) (by kernel_rfl) (by simp) ?_
      refine AllReadyH.cons rfl (fun K hK => ?_) AllReadyH.nil
      refine step_append_b rfl (.tmp 161) (.tmp 163) 26 rfl (w.heap.size + 1) 5 i0 Try.underlying26 hi hz0 hz1 hz2 _ _ rfl hO6 _ _ 8 8 (cidL ⟨24, s, o, fin, l, c, f, q, y, c0, c1, c2, c3, c4, c5, c6, c7⟩) rfl (cid_rd ⟨24, s, o, fin, l, c, f, q, y, c0, c1, c2, c3, c4, c5, c6, c7⟩ ⟨dA, dn, dc⟩ ⟨rA, rn, rc⟩ hA6 HCB.out) (by decide) (by rw [List.length_append, HN3.out]; simp only [List.length_cons, List.length_nil]; omega) _ (Below.refl _ _) hA6.lt ?_
      intro v7 W7 hO7 hb7 hgr
      refine hK.out _ _ (hA6.below hb7 (by omega)) (fun hHeld => ?_)
      clear hK K hgr
      have hB7 := hB6.trans (hb7.mono (by omega))
      refine tkp 12 (some 3) (v := ?_) rfl (Or.inl ⟨by rfl, ?_⟩) (by assumption) ?_
      rotate_left
      · intro w hSw; (try dsimp only at hSw); go_simp; first | done | (with_reducible rfl)
      simp only [Act.put, List.setIfInBounds_toArray, List.set_cons_zero, List.set_cons_succ]
      refine wpAnyH_done (by kernel_rfl) ?_ _
      obtain ⟨A6, a6, rfl, _, _, hR6⟩ := hO7.open_n n6 HN6.out
      go_wp2_with fail
      go_ret
      rw [HE.out]
      exact ⟨A6, n6, a6, rfl, HN6.out, hO7.base_ (Nat.le_succ _), hR6, hB7⟩
    ·
      go_simp
      go_wp2_with (fail)
      refine hK.out _ _ (hA3.alloc _) (fun hHeld => ?_)
      clear hK K
      have hb4 : Below W3.heap.size W3 (W3.alloc (.cells #[.int .u8 8] 5)) := (Below.refl _ _).alloc (Nat.le_refl _) _
      have hL4 := Rd.lit W3 5 [8] hby #[.int .u8 8] rfl
      have hL4 := hL4.more (B' := (W3.alloc (.cells #[.int .u8 8] 5)).heap.size) (by simp)
      obtain ⟨W4, hW4⟩ : ∃ x, W3.alloc (.cells #[.int .u8 8] 5) = x := ⟨_, rfl⟩
      rw [hW4] at hb4 hL4 ⊢
      clear hW4 hHeld
      have hA4 := hA3.below hb4 hA3.lt
      have hB4 := hB3.trans (hb4.mono hB3.size)
      have hR4 := (hR3.below hb4).more hb4.size
      have hU4 := hU3.kept (Kept.of_below hb4 (fun _ => False)) (fun _ _ h => h)
      clear hb4
      refine wpAnyH_ready (rs := [6]) (by kernel_rfl) (by simp) ?_
      refine AllReadyH.cons rfl (fun K hK => ?_) AllReadyH.nil
      go_simp
      go_wp2_with ((go_at_call 35; refine (rvs_any (fun _ => True) A1 n1 a1 ([] ++ putL [24]) _ 2 2 [q, l] W4 (w.heap.size + 1) hR4 (by omega) hU4 (by decide) (by decide) (by decide) HSM.out hA4.lt).mono ?_; rintro e W5 ⟨v5, rfl, hO5, hb5⟩; obtain ⟨A3, a3, rfl, _, _, _⟩ := hO5.open_n n3 HN3.out))
      refine hK.out _ _ (hA4.below hb5 hA4.lt) (fun hHeld => ?_)
      clear hK K hHeld
      have hA5 := hA4.below hb5 hA4.lt
      have hB5 := hB4.trans (hb5.mono hB4.size)
      have hL5 := (hL4.below hb5).more hb5.size
      clear hb5
      refine wpAnyH_ready (rs := [8]) (by kernel_rfl) (by simp) ?_
      refine AllReadyH.cons rfl (fun K hK => ?_) AllReadyH.nil
      refine step_append_b rfl (.tmp 159) (.tmp 160) 26 rfl (w.heap.size + 1) 5 i0 Try.underlying26 hi hz0 hz1 hz2 _ _ rfl hO5 _ _ 1 1 [8] rfl hL5 (by decide) (by rw [HN3.out]; omega) _ (Below.refl _ _) hA5.lt ?_
      intro v6 W6 hO6 hb6 hgr
      refine hK.out _ _ (hA5.below hb6 (by omega)) (fun hHeld => ?_)
      clear hK K hHeld hgr
      have hA6 := hA5.below hb6 (by omega)
      have hB6 := hB5.trans (hb6.mono (by omega))
      refine wpAnyH_ready (rs := [11]) (by kernel_rfl) (by simp) ?_
      refine AllReadyH.cons rfl (fun K hK => ?_) AllReadyH.nil
      refine step_append_b rfl (.tmp 161) (.tmp 163) 26 rfl (w.heap.size + 1) 5 i0 Try.underlying26 hi hz0 hz1 hz2 _ _ rfl hO6 _ _ 8 8 (cidL ⟨24, s, o, fin, l, c, f, q, y, c0, c1, c2, c3, c4, c5, c6, c7⟩) rfl (cid_rd ⟨24, s, o, fin, l, c, f, q, y, c0, c1, c2, c3, c4, c5, c6, c7⟩ ⟨dA, dn, dc⟩ ⟨rA, rn, rc⟩ hA6 HCB.out) (by decide) (by rw [List.length_append, HN3.out]; simp only [List.length_cons, List.length_nil]; omega) _ (Below.refl _ _) hA6.lt ?_
      intro v7 W7 hO7 hb7 hgr
      refine hK.out _ _ (hA6.below hb7 (by omega)) (fun hHeld => ?_)
      clear hK K hgr
      have hB7 := hB6.trans (hb7.mono (by omega))
      refine tkp 12 (some 3) (v := ?_) rfl (Or.inl ⟨by rfl, ?_⟩) (by assumption) ?_
      rotate_left
      · intro w hSw; (try dsimp only at hSw); go_simp; first | done | (with_reducible rfl)
      simp only [Act.put, List.setIfInBounds_toArray, List.set_cons_zero, List.set_cons_succ]
      refine wpAnyH_done (by kernel_rfl) ?_ _
      obtain ⟨A6, a6, rfl, _, _, hR6⟩ := hO7.open_n n6 HN6.out
      go_wp2_with fail
      go_ret
      rw [HE.out]
      exact ⟨A6, n6, a6, rfl, HN6.out, hO7.base_ (Nat.le_succ _), hR6, hB7⟩
  ·
    go_simp
    go_wp2_with (fail)
    refine hK.out _ _ (hA2.alloc _) (fun hHeld => ?_)
    clear hK K
    have hb3 : Below W2.heap.size W2 (W2.alloc (.cells #[.int .u8 8] 5)) := (Below.refl _ _).alloc (Nat.le_refl _) _
    have hL3 := Rd.lit W2 5 [8] hby #[.int .u8 8] rfl
    have hL3 := hL3.more (B' := (W2.alloc (.cells #[.int .u8 8] 5)).heap.size) (by simp)
    obtain ⟨W3, hW3⟩ : ∃ x, W2.alloc (.cells #[.int .u8 8] 5) = x := ⟨_, rfl⟩
    rw [hW3] at hb3 hL3 ⊢
    clear hW3 hHeld
    have hA3 := hA2.below hb3 hA2.lt
    have hB3 := hB2.trans (hb3.mono hB2.size)
    have hR3 := (hR2.below hb3).more hb3.size
    clear hb3
    refine wpAnyH_ready (rs := [5]) (by kernel_rfl) (by simp) ?_
    refine AllReadyH.cons rfl (fun K hK => ?_) AllReadyH.nil
    go_simp
    go_wp2_with (fail)
    refine hK.out _ _ (hA3.alloc _) (fun hHeld => ?_)
    clear hK K
    have hb4 : Below W3.heap.size W3 (W3.alloc (.cells #[.int .u64 q, .int .u64 l] 25)) := (Below.refl _ _).alloc (Nat.le_refl _) _
    have hU4 := UsP.new W3 (fun _ => True) 25 [q, l] (by intro x hx; simp at hx; omega) _ rfl W3.heap.size rfl trivial
    simp only [List.map_cons, List.map_nil, List.length_cons, List.length_nil] at hU4
    obtain ⟨W4, hW4⟩ : ∃ x, W3.alloc (.cells #[.int .u64 q, .int .u64 l] 25) = x := ⟨_, rfl⟩
    rw [hW4] at hb4 hU4 ⊢
    clear hW4 hHeld
    have hA4 := hA3.below hb4 hA3.lt
    have hB4 := hB3.trans (hb4.mono hB3.size)
    have hR4 := (hR3.below hb4).more hb4.size
    have hL4 := (hL3.below hb4).more hb4.size
    clear hb4
    refine wpAnyH_ready (rs := [6]) (by kernel_rfl) (by simp) ?_
    refine AllReadyH.cons rfl (fun K hK => ?_) AllReadyH.nil
    go_simp
    go_wp2_with ((go_at_call 35; refine (rvs_any (fun _ => True) A1 n1 a1 ([] ++ putL [24]) _ 2 2 [q, l] W4 (w.heap.size + 1) hR4 (by omega) hU4 (by decide) (by decide) (by decide) HSM.out hA4.lt).mono ?_; rintro e W5 ⟨v5, rfl, hO5, hb5⟩; obtain ⟨A3, a3, rfl, _, _, _⟩ := hO5.open_n n3 HN3.out))
    refine hK.out _ _ (hA4.below hb5 hA4.lt) (fun hHeld => ?_)
    clear hK K hHeld
    have hA5 := hA4.below hb5 hA4.lt
    have hB5 := hB4.trans (hb5.mono hB4.size)
    have hL5 := (hL4.below hb5).more hb5.size
    clear hb5
    refine wpAnyH_ready (rs := [8]) (by kernel_rfl) (by simp) ?_
    refine AllReadyH.cons rfl (fun K hK => ?_) AllReadyH.nil
    refine step_append_b rfl (.tmp 159) (.tmp 160) 26 rfl (w.heap.size + 1) 5 i0 Try.underlying26 hi hz0 hz1 hz2 _ _ rfl hO5 _ _ 1 1 [8] rfl hL5 (by decide) (by rw [HN3.out]; omega) _ (Below.refl _ _) hA5.lt ?_
    intro v6 W6 hO6 hb6 hgr
    refine hK.out _ _ (hA5.below hb6 (by omega)) (fun hHeld => ?_)
    clear hK K hHeld hgr
    have hA6 := hA5.below hb6 (by omega)
    have hB6 := hB5.trans (hb6.mono (by omega))
    refine wpAnyH_ready (rs := [11]) (by kernel_rfl) (by simp) ?_
    refine AllReadyH.cons rfl (fun K hK => ?_) AllReadyH.nil
    refine step_append_b rfl (.tmp 161) (.tmp 163) 26 rfl (w.heap.size + 1) 5 i0 Try.underlying26 hi hz0 hz1 hz2 _ _ rfl hO6 _ _ 8 8 (cidL ⟨24, s, o, fin, l, c, f, q, y, c0, c1, c2, c3, c4, c5, c6, c7⟩) rfl (cid_rd ⟨24, s, o, fin, l, c, f, q, y, c0, c1, c2, c3, c4, c5, c6, c7⟩ ⟨dA, dn, dc⟩ ⟨rA, rn, rc⟩ hA6 HCB.out) (by decide) (by rw [List.length_append, HN3.out]; simp only [List.length_cons, List.length_nil]; omega) _ (Below.refl _ _) hA6.lt ?_
    intro v7 W7 hO7 hb7 hgr
    refine hK.out _ _ (hA6.below hb7 (by omega)) (fun hHeld => ?_)
    clear hK K hgr
    have hB7 := hB6.trans (hb7.mono (by omega))
    refine tkp 12 (some 3) (v := ?_) rfl (Or.inl ⟨by rfl, ?_⟩) (by assumption) ?_
    rotate_left
    · intro w hSw; (try dsimp only at hSw); go_simp; first | done | (with_reducible rfl)
    simp only [Act.put, List.setIfInBounds_toArray, List.set_cons_zero, List.set_cons_succ]
    refine wpAnyH_done (by kernel_rfl) ?_ _
    obtain ⟨A6, a6, rfl, _, _, hR6⟩ := hO7.open_n n6 HN6.out
    go_wp2_with fail
    go_ret
    rw [HE.out]
    exact ⟨A6, n6, a6, rfl, HN6.out, hO7.base_ (Nat.le_succ _), hR6, hB7⟩
end Go.Proofs.Ytkahndjflhgccaa
