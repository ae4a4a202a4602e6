/-
  OctetTells returns true at every input: its walk.
-/
import Derived.Test.YtijpfdjmfnokkaaWritten
import Derived.Test.YtijpfdjmfnokkaaReads
import Derived.Test.YtijpfdjmfnokkaaInRow
namespace Go.Proofs.Ytijpfdjmfnokkaa
set_option linter.unusedVariables false
open Go.RowKit
/-- The same where the operation is guarded ('a && f(append(..))') and the guard is met. -/
theorem wpList_append_at_g {P : Program} {w : World} {ops : Array Oper} {rest : List Oper} {o : Oper} {a : Act} {Q : Exit → Act → World → Prop} (hgd : Region.wanted o (yielded ops a.tmps) = true) (s x : Operand) (t : TypeId)
    (ho : o.op = .call { callee := .builtin .append, args := #[s, x], argTypes := #[t, t] })
    (base : Nat) (e : TypeId) (i : TypeInfo) (ht : P.underlying t = some (.slice e)) (hi : P.info? e = some i) (hz : i.zero = some (.int .u8 0)) (hsize : i.size = 1) (hby : i.bytes = 1)
    (v : Value) (bs : List Int) (hs : a.eval s = v) (hown : Own w base e v bs)
    (B : Nat) (A : Option Addr) (m c : Nat) (news : List Int) (hx : a.eval x = .slice A m c) (hr : Rd w B A m news)
    (hlen : bs.length + m ≤ 140737488355328) (hbase : base ≤ w.heap.size)
    (h : ∀ v' w', Own w' base e v' (bs ++ news) → w.grownBy w' v.ownBlock → (v'.ownBlock = v.ownBlock ∨ v'.ownBlock = some w.heap.size) → wpList P ops Q rest (a.put o.dst v') w') : wpList P ops Q (o :: rest) a w := by
  refine wpList_step fun K hK => ?_
  rw [if_pos hgd]
  obtain ⟨v', w', h1, h2, h3, h4⟩ := run_append_at (P := P) (w := w) base t o.type e i ht hi hz hsize hby v bs hown B A m c news hr hlen hbase
  unfold Oper.wp
  simp [execOp, ho, resolve, invoke, builtin, hs, hx, h1, Result.andThen]
  exact hK _ _ (h v' w' h2 h3 h4)
theorem AskAt.more {w : World} {B B' b o : Nat} {d : AskD} (h : AskAt w B b o d) (hB : B ≤ B') : AskAt w B' b o d := { h with rd := h.rd.more hB }
theorem Asks.more {w : World} {B B' : Nat} {A : Option Addr} {n c : Nat} {L : List AskD} (h : Asks w B A n c L) (hB : B ≤ B') : Asks w B' A n c L :=
  ⟨h.1, h.2.1, h.2.2.1, h.2.2.2.1, fun hn => by
    obtain ⟨b, off, e, hlt, hc⟩ := h.2.2.2.2 hn
    exact ⟨b, off, e, by omega, fun i d hd => (hc i d hd).more hB⟩⟩
theorem Asks.later {w w' : World} {A : Option Addr} {n c : Nat} {L : List AskD} (h : Asks w w.heap.size A n c L) (hb : Below w.heap.size w w') : Asks w' w'.heap.size A n c L := (h.below hb).more hb.size
theorem Own.inRow {w : World} {base : Nat} {e : TypeId} {A : Option Addr} {n c : Nat} {bs : List Int} (h : Own w base e (.slice A n c) bs) (hn : bs.length = n) : InRow w A n c bs := by
  have hA := h.nil_cap
  obtain ⟨A', c', e, h1, h2, h3⟩ := h.open_n n hn
  injection e with e1 e2 e3
  subst e1; subst e3
  exact ⟨h3, h1, h2, hA⟩
theorem InRow.later {w w' : World} {A : Option Addr} {n c : Nat} {bs : List Int} (h : InRow w A n c bs) (hb : Below w.heap.size w w') : InRow w' A n c bs := ⟨(h.1.below hb).more hb.size, h.2⟩
/-- A byte of the call's own row is turned. -/
theorem Own.setAt {w : World} {base : Nat} {e : TypeId} {g n c : Nat} {bs : List Int} (h : Own w base e (.slice (some ⟨g, 0, none⟩) n c) bs) (hn : bs.length = n) (i : Nat) (hi : i < n) (z : Int) (hz : 0 ≤ z ∧ z < 256) :
    Own (w.setCell ⟨g, i, none⟩ (.int .u8 z)) base e (.slice (some ⟨g, 0, none⟩) n c) (bs.set i z) ∧ w.cell? ⟨g, i, none⟩ = some (.int .u8 (bs.getD i 0)) ∧ w.frozen? ⟨g, i, none⟩ = false := by
  subst hn
  have hc : w.cell? ⟨g, i, none⟩ = some (.int .u8 (bs.getD i 0)) := by
    obtain ⟨b, off, e1, _, hcell⟩ := (Rd.of_own h.2 rfl h.1).2.2 (by omega)
    injection e1 with e1
    injection e1 with e1 e2
    subst e1; subst e2
    have := hcell i hi
    rwa [Nat.zero_add] at this
  rcases h.1.2 with ⟨h0, _⟩ | ⟨g', cap, cur, h0, hb, hg, h1, h2, h3, h4⟩
  · injection h0 with h0; cases h0
  · injection h0 with h0 h01 h02
    injection h0 with h0
    injection h0 with h0 h03
    subst h0; subst h02
    refine ⟨⟨⟨by simp, .inr ⟨g, c, cur.setIfInBounds i (.int .u8 z), by simp, hb, by simp [World.setCell, Array.getElem?_modify, hg], by simpa using h1, h2, by simpa using h3, ?_⟩⟩, ?_⟩, hc, by simp [World.frozen?, hg]⟩
    · rw [List.length_set]
      simp only [Nat.mul_one] at h4 ⊢
      rw [Array.toList_setIfInBounds, List.take_set, h4, List.map_set]
    · intro y hy
      rcases List.mem_or_eq_of_mem_set hy with hy | hy
      · exact h.2 y hy
      · rw [hy]; exact hz
set_option maxRecDepth 100000 in
set_option maxHeartbeats 8000000 in
theorem otells_walk (A0 : Option Addr) (n0 c0 : Nat) (L0 : List AskD) (A1 : Option Addr) (n1 c1 : Nat) (L1 : List AskD) (A2 : Option Addr) (n2 c2 : Nat) (bs : List Int) (at_ tn : Int) (w : World)
    (hL0 : Asks w w.heap.size A0 n0 c0 L0) (hL1 : Asks w w.heap.size A1 n1 c1 L1) (hr : InRow w A2 n2 c2 bs) (ha0 : -9223372036854775808 ≤ at_) (ha1 : at_ ≤ 9223372036854775807) (ht0 : 0 ≤ tn) (ht1 : tn < 256) :
    Calls Try.prog 4 #[.slice A0 n0 c0, .slice A1 n1 c1, .slice A2 n2 c2, .int .i64 at_, .int .u8 tn] w fun e w' => e = .returned (.bool true) ∧ Below w.heap.size w w' := by
  obtain ⟨i0, hi, hz0, hz1, hz2⟩ := info_parts u8_info
  have hE := encL_take_len L0 15 (Nat.le_refl _)
  obtain ⟨E, hEE⟩ : ∃ E, encL (L0.take 15) = E := ⟨_, rfl⟩
  have W := Lib.hid (written_any A0 n0 c0 L0 w hL0)
  rw [hEE] at hE W
  clear hEE
  obtain ⟨N, hN⟩ : ∃ N, E.length = N := ⟨_, rfl⟩
  rw [hN] at hE
  obtain ⟨TX, hTX⟩ : ∃ TX, strOfNums E = TX := ⟨_, rfl⟩
  have NN := Lib.hid hN
  have TT := Lib.hid hTX
  clear hN hTX
  go_enter Try.func4, Try.ntmps4
  go_wp2_with fail
  refine W.out.mono ?_
  rintro e w1 ⟨v, vb, rfl, hv, hvb, hap, hb1⟩
  have hs1 := hb1.size
  obtain ⟨A3, c3, rfl, g1, g2, g3⟩ := hv.open_n N NN.out
  obtain ⟨A4, c4, rfl, k1, k2, k3⟩ := hvb.open_n N NN.out
  have t1 := run_text (P := Try.prog) (c := c3) g3 23 5 9 Try.underlying23 Try.underlying5 Try.underlying9
  have t2 := run_text (P := Try.prog) (c := c4) k3 23 5 9 Try.underlying23 Try.underlying5 Try.underlying9
  rw [TT.out] at t1 t2
  have hL01 := hL0.later hb1
  have hL11 := hL1.later hb1
  have hr1 := hr.later hb1
  have hL := hL0
  clear hv g3 hap W hL0 hL1 hr
  go_wp2_with (at_builtin; refine wpList_append_rd rfl (.tmp 30) (.tmp 31) 23 rfl w1.heap.size 5 i0 Try.underlying23 hi hz0 hz1 hz2 _ [] rfl (Own.of_block (n := 0) (cap := 0) Byt.nil rfl (heap_alloc_new w1 _) (Nat.le_refl _) (Nat.le_refl _) (Nat.zero_le _) rfl rfl) _ A4 N c4 E rfl (k3.alloc (Nat.le_refl _) _) (by rw [List.length_nil]; omega) w1 ((Below.refl _ _).alloc (Nat.le_refl _) _) (by simp) ?_; intro v2 w2 hown2 hb2 hgr2; have hs2 := hb2.size; have HO := Lib.hid (hown2.cast (List.nil_append _)); obtain ⟨A5, c5, rfl, p1, p2, p3⟩ := HO.out.open_n N NN.out; clear hown2 hgr2 p3)
  --REST
  · obtain ⟨z, hz⟩ : ∃ z, withinS at_ 0 ((N : Int) - 1) = z := ⟨_, rfl⟩
    have hzb := withinS_bd at_ 0 ((N : Int) - 1) (by omega)
    rw [hz] at hzb
    have WZ := Lib.hid hz
    clear hz
    obtain ⟨zk, rfl⟩ := Int.eq_ofNat_of_zero_le hzb.1
    have hzk : zk < N := by omega
    have hzb2 := hzb.2
    obtain ⟨g, rfl⟩ : ∃ g, A5 = some ⟨g, 0, none⟩ := by
      obtain ⟨g, cap, e, _⟩ := HO.out.1.form (by rw [NN.out]; omega)
      injection e with e
      exact ⟨g, e⟩
    obtain ⟨hset, hcell, hfr⟩ := HO.out.setAt NN.out zk hzk (bits BinOp.xor IntKind.u8 (E.getD zk 0) tn) (u8_bits_bd _ _ _)
    have hgb := (HO.out.block_lt g rfl).1
    have hbd := HO.out.2.getD zk
    obtain ⟨b0, hb0⟩ : ∃ b0, E.getD zk 0 = b0 := ⟨_, rfl⟩
    rw [hb0] at hset hcell hbd
    obtain ⟨hb01, hb02⟩ := hbd
    have HSET := Lib.hid hset
    clear hb0 hset hzb
    refine (within_any at_ 0 ((N : Int) - 1) w2 ha0 ha1 (by omega) (by omega) (by omega)).mono ?_
    rintro e w' ⟨rfl, rfl⟩
    rw [WZ.out]
    go_wp2_with fail
    have hw3 : Below w1.heap.size w1 (w2.setCell ⟨g, zk, none⟩ (.int .u8 (bits BinOp.xor IntKind.u8 b0 tn))) := hb2.setCell hgb _
    have hy := HSET.out
    have hyN : (E.set zk (bits BinOp.xor IntKind.u8 b0 tn)).length = N := by rw [List.length_set, NN.out]
    obtain ⟨F, hF⟩ : ∃ F, E.set zk (bits BinOp.xor IntKind.u8 b0 tn) = F := ⟨_, rfl⟩
    rw [hF] at hy hyN
    obtain ⟨w3, hw3e⟩ : ∃ w3, w2.setCell ⟨g, zk, none⟩ (.int .u8 (bits BinOp.xor IntKind.u8 b0 tn)) = w3 := ⟨_, rfl⟩
    rw [hw3e] at hw3 hy
    rw [hw3e]
    clear hw3e HSET hcell hfr hb01 hb02 hF
    have hxx : Own w3 w.heap.size 5 (.slice A4 N c4) E := hvb.below hw3 (Nat.le_refl _)
    have hL03 := hL01.later hw3
    have hL13 := hL11.later hw3
    have hr3 := hr1.later hw3
    have hs3 := hw3.size
    have hbw3 := hb1.trans (hw3.mono hs1)
    clear hvb hL01 hL11 hr1 hb2 t1 t2 k3
    refine (cut_any A2 n2 c2 60 w3 hr3.2.1 hr3.2.2.1 (by omega) (fun h e => by have := hr3.2.2.2 e; have := hr3.2.1; omega)).mono ?_
    rintro e w' ⟨rfl, rfl⟩
    have hrb : InRow w3 A2 (min n2 60) c2 (bs.take (min n2 60)) := ⟨hr3.1.cut (by omega), by have := hr3.2.1; omega, hr3.2.2⟩
    obtain ⟨q, hq⟩ : ∃ q, min n2 60 = q := ⟨_, rfl⟩
    obtain ⟨xs, hxs⟩ : ∃ xs, bs.take (min n2 60) = xs := ⟨_, rfl⟩
    rw [hxs, hq] at hrb
    rw [hq]
    have hq60 : q ≤ 60 := by omega
    clear hq hxs hr3
    go_wp2_with fail
    refine (reads_any _ N c5 F A0 n0 c0 L0 w3 (hy.inRow hyN) (by omega) hL03).mono ?_
    rintro e w4 ⟨rfl, hb4⟩
    have hs4 := hb4.size
    have hxx4 := hxx.below hb4 (Nat.le_refl _)
    have hL04 := hL03.later hb4
    have hL14 := hL13.later hb4
    have hrb4 := hrb.later hb4
    have hbw4 := hbw3.trans (hb4.mono (by omega))
    clear hxx hL03 hL13 hrb hy hbw3 hw3
    go_wp2_with fail
    refine (reads_any A4 N c4 E A1 n1 c1 L1 w4 (hxx4.inRow NN.out) (by omega) hL14).mono ?_
    rintro e w5 ⟨rfl, hb5⟩
    have hs5 := hb5.size
    have hxx5 := hxx4.below hb5 (Nat.le_refl _)
    have hL05 := hL04.later hb5
    have hL15 := hL14.later hb5
    have hrb5 := hrb4.later hb5
    have hbw5 := hbw4.trans (hb5.mono (by omega))
    clear hxx4 hL04 hL14 hrb4 hbw4 hb4
    go_wp2_with fail
    refine (reads_any A2 q c2 xs A1 n1 c1 L1 w5 hrb5 (by omega) hL15).mono ?_
    rintro e w6 ⟨rfl, hb6⟩
    have hs6 := hb6.size
    have hxx6 := hxx5.below hb6 (Nat.le_refl _)
    have hL06 := hL05.later hb6
    have hrb6 := hrb5.later hb6
    have hbw6 := hbw5.trans (hb6.mono (by omega))
    clear hxx5 hL05 hL15 hrb5 hbw5 hb5
    have hq7 : E.length + q ≤ 140737488355328 := by rw [NN.out]; omega
    have hm7 : (E ++ xs).length ≤ 700 := by rw [List.length_append, NN.out, hrb6.1.1]; omega
    have hrx := Lib.hid hrb6.1
    have hbb6 : w.heap.size ≤ w6.heap.size := by omega
    clear hb6 hrb6
    go_wp2_with (at_builtin; refine wpList_append_at_g (by rfl) (.tmp 63) (.tmp 64) 23 rfl w.heap.size 5 i0 Try.underlying23 hi hz0 hz1 hz2 _ E rfl hxx6 _ A2 q c2 xs rfl hrx.out hq7 hbb6 ?_; intro v7 w7 ho7 hg7 hv7; clear hv7; obtain ⟨M, hM⟩ : ∃ M, (E ++ xs).length = M := ⟨_, rfl⟩; obtain ⟨A7, c7, rfl, m1, m2, m3⟩ := ho7.open_n M hM; rw [hM] at hm7; have hbw7 : Below w.heap.size w w7 := hbw6.grown hg7 hbb6 (fun k hk => (hxx6.block_lt k hk).1); have hL07 := (hL.below hbw7).more hbw7.size; have hrow := ho7.inRow hM; clear hM hg7 ho7 m3)
    refine (reads_any A7 M c7 _ A0 n0 c0 L0 w7 hrow (by omega) hL07).mono ?_
    rintro e w8 ⟨rfl, hb8⟩
    have hs7 := hbw7.size
    go_wp2_with fail
    refine (known_any _).mono ?_
    rintro e w9 ⟨rfl, hb9⟩
    have hs8 := hb8.size
    go_wp2_with fail
    go_ret
    exact ⟨rfl, (hbw7.trans (hb8.mono hs7)).trans (hb9.mono (by omega))⟩
  · have hw3 := hb2
    have hy := HO.out
    have hyN := NN.out
    obtain ⟨w3, rfl⟩ : ∃ w3, w3 = w2 := ⟨_, rfl⟩
    obtain ⟨F, hF⟩ : ∃ F, F = E := ⟨_, rfl⟩
    rw [← hF] at hy hyN
    clear hF
    have hxx : Own w3 w.heap.size 5 (.slice A4 N c4) E := hvb.below hw3 (Nat.le_refl _)
    have hL03 := hL01.later hw3
    have hL13 := hL11.later hw3
    have hr3 := hr1.later hw3
    have hs3 := hw3.size
    have hbw3 := hb1.trans (hw3.mono hs1)
    clear hvb hL01 hL11 hr1 hb2 t1 t2 k3
    refine (cut_any A2 n2 c2 60 w3 hr3.2.1 hr3.2.2.1 (by omega) (fun h e => by have := hr3.2.2.2 e; have := hr3.2.1; omega)).mono ?_
    rintro e w' ⟨rfl, rfl⟩
    have hrb : InRow w3 A2 (min n2 60) c2 (bs.take (min n2 60)) := ⟨hr3.1.cut (by omega), by have := hr3.2.1; omega, hr3.2.2⟩
    obtain ⟨q, hq⟩ : ∃ q, min n2 60 = q := ⟨_, rfl⟩
    obtain ⟨xs, hxs⟩ : ∃ xs, bs.take (min n2 60) = xs := ⟨_, rfl⟩
    rw [hxs, hq] at hrb
    rw [hq]
    have hq60 : q ≤ 60 := by omega
    clear hq hxs hr3
    go_wp2_with fail
    refine (reads_any _ N c5 F A0 n0 c0 L0 w3 (hy.inRow hyN) (by omega) hL03).mono ?_
    rintro e w4 ⟨rfl, hb4⟩
    have hs4 := hb4.size
    have hxx4 := hxx.below hb4 (Nat.le_refl _)
    have hL04 := hL03.later hb4
    have hL14 := hL13.later hb4
    have hrb4 := hrb.later hb4
    have hbw4 := hbw3.trans (hb4.mono (by omega))
    clear hxx hL03 hL13 hrb hy hbw3 hw3
    go_wp2_with fail
    refine (reads_any A4 N c4 E A1 n1 c1 L1 w4 (hxx4.inRow NN.out) (by omega) hL14).mono ?_
    rintro e w5 ⟨rfl, hb5⟩
    have hs5 := hb5.size
    have hxx5 := hxx4.below hb5 (Nat.le_refl _)
    have hL05 := hL04.later hb5
    have hL15 := hL14.later hb5
    have hrb5 := hrb4.later hb5
    have hbw5 := hbw4.trans (hb5.mono (by omega))
    clear hxx4 hL04 hL14 hrb4 hbw4 hb4
    go_wp2_with fail
    refine (reads_any A2 q c2 xs A1 n1 c1 L1 w5 hrb5 (by omega) hL15).mono ?_
    rintro e w6 ⟨rfl, hb6⟩
    have hs6 := hb6.size
    have hxx6 := hxx5.below hb6 (Nat.le_refl _)
    have hL06 := hL05.later hb6
    have hrb6 := hrb5.later hb6
    have hbw6 := hbw5.trans (hb6.mono (by omega))
    clear hxx5 hL05 hL15 hrb5 hbw5 hb5
    have hq7 : E.length + q ≤ 140737488355328 := by rw [NN.out]; omega
    have hm7 : (E ++ xs).length ≤ 700 := by rw [List.length_append, NN.out, hrb6.1.1]; omega
    have hrx := Lib.hid hrb6.1
    have hbb6 : w.heap.size ≤ w6.heap.size := by omega
    clear hb6 hrb6
    go_wp2_with (at_builtin; refine wpList_append_at_g (by rfl) (.tmp 63) (.tmp 64) 23 rfl w.heap.size 5 i0 Try.underlying23 hi hz0 hz1 hz2 _ E rfl hxx6 _ A2 q c2 xs rfl hrx.out hq7 hbb6 ?_; intro v7 w7 ho7 hg7 hv7; clear hv7; obtain ⟨M, hM⟩ : ∃ M, (E ++ xs).length = M := ⟨_, rfl⟩; obtain ⟨A7, c7, rfl, m1, m2, m3⟩ := ho7.open_n M hM; rw [hM] at hm7; have hbw7 : Below w.heap.size w w7 := hbw6.grown hg7 hbb6 (fun k hk => (hxx6.block_lt k hk).1); have hL07 := (hL.below hbw7).more hbw7.size; have hrow := ho7.inRow hM; clear hM hg7 ho7 m3)
    refine (reads_any A7 M c7 _ A0 n0 c0 L0 w7 hrow (by omega) hL07).mono ?_
    rintro e w8 ⟨rfl, hb8⟩
    have hs7 := hbw7.size
    go_wp2_with fail
    refine (known_any _).mono ?_
    rintro e w9 ⟨rfl, hb9⟩
    have hs8 := hb8.size
    go_wp2_with fail
    go_ret
    exact ⟨rfl, (hbw7.trans (hb8.mono hs7)).trans (hb9.mono (by omega))⟩

theorem otells_law (A0 : Option Addr) (n0 c0 : Nat) (L0 : List AskD) (A1 : Option Addr) (n1 c1 : Nat) (L1 : List AskD) (A2 : Option Addr) (n2 c2 : Nat) (bs : List Int) (at_ tn : Int) (w : World)
    (hL0 : Asks w w.heap.size A0 n0 c0 L0) (hL1 : Asks w w.heap.size A1 n1 c1 L1) (hr : InRow w A2 n2 c2 bs) (ha : (Lit.int .i64 at_).wf = true) (ht : (Lit.int .u8 tn).wf = true) :
    Calls Try.prog 4 #[.slice A0 n0 c0, .slice A1 n1 c1, .slice A2 n2 c2, .int .i64 at_, .int .u8 tn] w fun e w' => e = .returned (.bool true) ∧ Below w.heap.size w w' := by
  have h1 := bounds_i64 ha
  have h2 := bounds_u8 ht
  exact otells_walk A0 n0 c0 L0 A1 n1 c1 L1 A2 n2 c2 bs at_ tn w hL0 hL1 hr h1.1 h1.2 h2.1 (by omega)
end Go.Proofs.Ytijpfdjmfnokkaa
