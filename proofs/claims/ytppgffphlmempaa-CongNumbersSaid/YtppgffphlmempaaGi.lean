/-
  CongNumbers: its walk.
-/
import Derived.Test.YtppgffphlmempaaGh
namespace Go.Proofs.Ytppgffphlmempaa
set_option linter.unusedVariables false
set_option linter.unusedSimpArgs false
open Go.RowKit
/-- What the row of the call's own is, i calls of it. -/
structure NmG (w0 wr : World) (i : Nat) (v : Value) (M : List AskD) : Prop where
  own : OwnA wr w0.heap.size v M
  len : M.length = i
  bl : Below w0.heap.size w0 wr
theorem NmG.step {w0 wr W w2 : World} {i : Nat} {v v2 : Value} {M : List AskD} {d : AskD} (h : NmG w0 wr i v M) (hb : Below wr.heap.size wr W) (ho : OwnA w2 w0.heap.size v2 (M ++ [d])) (hg : W.grownBy w2 v.ownBlock) : NmG w0 w2 (i + 1) v2 (M ++ [d]) :=
  ⟨ho, by rw [List.length_append, h.len]; rfl, (h.bl.trans (hb.mono h.bl.size)).grown hg (Nat.le_trans h.bl.size hb.size) (fun j hj => (h.own.lt j hj).1)⟩
/-- What append asks of the world behind the three literals. -/
structure Nx (w0 wr W : World) (v : Value) (M : List AskD) (d : AskD) : Prop where
  bl : Below wr.heap.size wr W
  own : OwnA W w0.heap.size v M
  sz : w0.heap.size ≤ W.heap.size
  new : ∀ j u, (askC [d])[j]? = some u → W.cell? ((⟨wr.heap.size + 1 + 1, 0, none⟩ : Addr).add j) = some u
theorem nx_of {w0 wr : World} {i : Nat} {v : Value} {M : List AskD} (h : NmG w0 wr i v M) (a b : Obj) (d : AskD) : Nx w0 wr ((((wr.alloc a).alloc b).alloc (.cells (acC d).toArray 25)).drew) v M d := by
  have hb : Below wr.heap.size wr ((((wr.alloc a).alloc b).alloc (.cells (acC d).toArray 25)).drew) := ((((Below.refl _ wr).alloc (Nat.le_refl _) a).alloc (by simp) b).alloc (by simp; omega) _).drew
  refine ⟨hb, h.own.keep fun j hj => hb.block j (h.own.lt j hj).2, Nat.le_trans h.bl.size hb.size, fun j u hj => ?_⟩
  have hA := At.new ((wr.alloc a).alloc b) 25 (acC d)
  rw [World.size_alloc, World.size_alloc] at hA
  have e : askC [d] = acC d := by simp [askC]
  rw [e] at hj
  rw [Addr.add_lit, Nat.zero_add]
  exact (hA.drew.cell j).trans hj
theorem ack_slow2 (z i : Int) (h0 : 5120 ≤ z) (h1 : z ≤ 1000000000) (hi : 0 ≤ i) : ackS ⟨z, 1073741824, -1⟩ 512 i = ⟨z + 512, 1073741824, -1⟩ := by
  unfold ackS moreS clN
  rw [if_neg (by simp only; omega), if_pos (by simp only; omega)]
  congr 1
  simp only
  omega
def litK : List Value := [.int .i64 0, .int .i64 0, .int .i64 0, .int .i64 1, .int .i64 0, .int .i64 0, .int .i64 0, .int .i64 0, .int .i64 2, .int .i64 0, .int .i64 1]
def litX : List Value := [.int .i64 512, .int .i64 513, .int .i64 1, .int .i64 0, .int .i64 (-1), .int .i64 1073741824]
theorem litK_get (m : Nat) (h : m < 11) : ∃ k, litK[m]? = some (.int .i64 k) ∧ I64 k := by
  have : m = 0 ∨ m = 1 ∨ m = 2 ∨ m = 3 ∨ m = 4 ∨ m = 5 ∨ m = 6 ∨ m = 7 ∨ m = 8 ∨ m = 9 ∨ m = 10 := by omega
  rcases this with rfl | rfl | rfl | rfl | rfl | rfl | rfl | rfl | rfl | rfl | rfl <;> exact ⟨_, rfl, by unfold I64; decide⟩
theorem litX_get (m : Nat) (h : m < 6) : ∃ k, litX[m]? = some (.int .i64 k) ∧ I64 k := by
  have : m = 0 ∨ m = 1 ∨ m = 2 ∨ m = 3 ∨ m = 4 ∨ m = 5 := by omega
  rcases this with rfl | rfl | rfl | rfl | rfl | rfl <;> exact ⟨_, rfl, by unfold I64; decide⟩
set_option maxRecDepth 100000 in
set_option maxHeartbeats 8000000 in
theorem gnumbers_law (w : World) : Calls Try.prog 3 #[] w fun e w' => e = .returned (.bool true) ∧ Below w.heap.size w w' := by
  have HI : Hid (NmG w w 0 (.slice none 0 0) []) := Lib.hid ⟨OwnA.nil_ _ _, rfl, Below.refl _ _⟩
  go_enter Try.func3, Try.ntmps3
  go_wp2
  go_loopg [1, 2] 60 (fun kx s1 s2 wr => ∃ (i : Nat) (v : Value) (M : List AskD), v = s1 ∧ s2 = .int .i64 i ∧ i ≤ 60 ∧ 60 - i ≤ kx ∧ Hid (NmG w wr i v M))
  case atStart => exact ⟨0, _, _, rfl, rfl, by omega, by omega, HI⟩
  case round =>
    clear HI
    obtain ⟨i, v, M, rfl, rfl, hin, hkx, hT⟩ := hrel
    by_cases hgo : i < 60
    · have hiz : (i : Int) < 60 := by omega
      obtain ⟨m1, hm1⟩ : ∃ m, i % 11 = m := ⟨_, rfl⟩
      obtain ⟨m2, hm2⟩ : ∃ m, i % 6 = m := ⟨_, rfl⟩
      have hb1 : m1 < 11 := by omega
      have hb2 : m2 < 6 := by omega
      have ht1 : (i : Int).tmod 11 = (m1 : Int) := by rw [Int.tmod_eq_emod_of_nonneg (by omega)]; omega
      have ht2 : (i : Int).tmod 6 = (m2 : Int) := by rw [Int.tmod_eq_emod_of_nonneg (by omega)]; omega
      have hw1 : IntKind.i64.wrap ((i : Int) - 3) = (i : Int) - 3 := by rw [IntKind.wrap_i64]; omega
      have hw2 : IntKind.i64.wrap ((i : Int) + 2) = (i : Int) + 2 := by rw [IntKind.wrap_i64]; omega
      obtain ⟨kk, hk, hk2⟩ := litK_get m1 hb1
      obtain ⟨xx, hx, hx2⟩ := litX_get m2 hb2
      clear hm1 hm2
      have mixed : Try.prog.follows .mixedOrders = true := by kernel_rfl
      have hc1 : (m1 : Int) < 11 := by omega
      have hc2 : (m2 : Int) < 6 := by omega
      have aK := At.new wr 3 litK
      have aX := At.new wr 3 litX
      have aKX := At.new (wr.alloc (.cells litK.toArray 3)) 3 litX
      have aXK := At.new (wr.alloc (.cells litX.toArray 3)) 3 litK
      rw [World.size_alloc] at aKX aXK
      have q1 := (aK.cell m1).trans hk
      have q2 := (aX.cell m2).trans hx
      have q3 := (aKX.cell m2).trans hx
      have q4 := (aXK.cell m1).trans hk
      have q5 := ((aK.alloc (.cells litX.toArray 3)).cell m1).trans hk
      have q6 := ((aX.alloc (.cells litK.toArray 3)).cell m2).trans hx
      simp only [litK, litX] at q1 q2 q3 q4 q5 q6
      go_wp2_with fail
      have hwd : ∀ d ∈ ([⟨kk, xx, (i : Int) - 3, (i : Int) + 2⟩] : List AskD), d.wf := fun d hd => by
        rw [List.mem_singleton] at hd
        subst hd
        unfold AskD.wf I64 at *
        simp only
        omega
      have HWD := Lib.hid hwd
      have FA := Lib.hid (nx_of hT.out (.cells litK.toArray 3) (.cells litX.toArray 3) ⟨kk, xx, (i : Int) - 3, (i : Int) + 2⟩)
      have FB := Lib.hid (nx_of hT.out (.cells litX.toArray 3) (.cells litK.toArray 3) ⟨kk, xx, (i : Int) - 3, (i : Int) + 2⟩)
      simp only [litK, litX, acC] at FA FB
      clear hwd aK aX aKX aXK hk hx hk2 hx2
      go_region_law_o (first
        | (refine step_append3 rfl (.tmp 9) (.tmp 25) rfl w.heap.size v M [⟨kk, xx, (i : Int) - 3, (i : Int) + 2⟩] (by simp [Act.eval, Act.put]) FA.out.own ⟨wr.heap.size + 1 + 1, 0, none⟩ 1 1 (by simp [Act.eval, Act.put]) rfl (by simp) FA.out.new HWD.out (by have := hT.out.len; simp; omega) FA.out.sz ?_; intro v2 w2 hown2 hg2; have h6 := Lib.hid (hT.out.step FA.out.bl hown2 hg2); clear hown2 hg2)
        | (refine step_append3 rfl (.tmp 9) (.tmp 25) rfl w.heap.size v M [⟨kk, xx, (i : Int) - 3, (i : Int) + 2⟩] (by simp [Act.eval, Act.put]) FB.out.own ⟨wr.heap.size + 1 + 1, 0, none⟩ 1 1 (by simp [Act.eval, Act.put]) rfl (by simp) FB.out.new HWD.out (by have := hT.out.len; simp; omega) FB.out.sz ?_; intro v2 w2 hown2 hg2; have h6 := Lib.hid (hT.out.step FB.out.bl hown2 hg2); clear hown2 hg2))
      all_goals go_wp2
      all_goals go_roundg (60 - (i + 1))
      all_goals first
        | omega
        | exact ⟨i + 1, v2, _, rfl, by simp, by omega, by omega, h6⟩
    · obtain rfl : i = 60 := by omega
      clear hgo
      obtain ⟨A4, c4, rfl, h4⟩ := hT.out.own.asks
      rw [hT.out.len] at h4 ⊢
      have H4 := Lib.hid h4
      have HQ := Lib.hid (fun (W : World) (hW : Below wr.heap.size wr W) => gplay_any A4 60 c4 M wr.heap.size W (H4.out.below hW) hW.size)
      have hBw := Lib.hid hT.out.bl
      clear h4
      go_wp2_with (go_at_call 7; refine (gnew_any _).mono ?_; rintro e w1 ⟨rfl, hA1, hB1⟩)
      obtain ⟨p, hp⟩ : ∃ p, wr.heap.size = p := ⟨_, rfl⟩
      rw [hp] at hA1 ⊢
      have HT : Hid (Og wr w1 p ⟨5120, 1073741824, -1⟩) := Lib.hid ⟨cs0_ok, hA1, hB1, Nat.le_of_eq hp⟩
      clear hp hA1 hB1
      obtain ⟨w0, hw0⟩ : ∃ w0, wr = w0 := ⟨_, rfl⟩
      rw [hw0] at HQ hBw HT
      clear hT hw0
      go_wp2
      go_loopg [4] 3000 (fun kx s4 wr2 => ∃ (j : Nat), s4 = .int .i64 j ∧ j ≤ 3000 ∧ 3000 - j ≤ kx ∧ Hid (Og w0 wr2 p ⟨5120 + 512 * (j : Int), 1073741824, -1⟩))
      case atStart => exact ⟨0, rfl, by omega, by omega, HT⟩
      case round =>
        clear HT
        obtain ⟨j, rfl, hj3, hkx2, hO⟩ := hrel
        by_cases hj : j < 3000
        · have hjz : (j : Int) < 3000 := by omega
          have HX2 := Lib.hid (gack_any hO.out.ap hO.out.ok 512 (j : Int) (by decide))
          have HX3 := Lib.hid (fun (w2 : World) a k => (Og.next (w1 := w2) hO.out (ackS_ok hO.out.ok 512 (j : Int)) a k))
          rw [ack_slow2 _ (j : Int) (by omega) (by omega) (by omega)] at HX2 HX3
          have e : 5120 + 512 * (j : Int) + 512 = 5120 + 512 * ((j + 1 : Nat) : Int) := by omega
          rw [e] at HX2 HX3
          clear e
          go_wp2_with (go_at_call 8; (with_reducible refine HX2.out.mono ?_); rintro e w7 ⟨rfl, hA7, hk7⟩; have H7 := Lib.hid (HX3.out _ hA7 hk7); clear hA7 hk7)
          go_roundg (3000 - (j + 1))
          case measure => omega
          case rel => exact ⟨j + 1, by simp, by omega, by omega, H7⟩
        · obtain rfl : j = 3000 := by omega
          have HSZ3 := Lib.hid (gsize_any hO.out.ap)
          rw [show (CS.mk (5120 + 512 * ((3000 : Nat) : Int)) 1073741824 (-1)).sz = 1541120 by decide] at HSZ3
          have HK := Lib.hid (fun W => gknown_any W)
          have HP := Lib.hid (HQ.out _ hO.out.bl)
          go_wp2_with (first
            | (go_at_call 9; (with_reducible refine HSZ3.out.mono ?_); rintro e w8 ⟨rfl, rfl⟩)
            | (go_at_call 10; (with_reducible refine HP.out.mono ?_); rintro e w9 ⟨rfl, hB9⟩; have H9 := Lib.hid (hO.out.bl.trans (hB9.mono hO.out.bl.size)); clear hB9)
            | (go_at_call 11; refine (HK.out _).mono ?_; rintro e w10 ⟨rfl, hB10⟩; have H10 := Lib.hid (H9.out.trans (hB10.mono H9.out.size)); clear hB10))
          go_ret
          exact ⟨rfl, hBw.out.trans (H10.out.mono hBw.out.size)⟩
end Go.Proofs.Ytppgffphlmempaa
