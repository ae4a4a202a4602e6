/-
  streams.Set: reach.
-/
import Derived.Test.YtndaikeeikimeaaMq22
import Derived.Test.YtndaikeeikimeaaMq9
namespace Go.Proofs.Ytndaikeeikimeaa
set_option linter.unusedVariables false
set_option linter.unusedSimpArgs false
open Go.RowKit
/-- append(l, x) of one pointer, in a region that draws its order. -/
theorem step_append_p {w : World} {ops : Array Oper} {o : Oper} {a : Act} {K : Act → World → Prop} {Q : Exit → Act → World → Prop} {E : Prop} (hgd : Region.wanted o (yielded ops a.tmps) = true) (s x : Operand)
    (ho : o.op = .call { callee := .builtin .append, args := #[s, x], argTypes := #[50, 50] }) (base : Nat) (v : Value) (L : List En) (hs : a.eval s = v) (hown : Pw w base v L) (g c : Nat) (y : En)
    (hx : a.eval x = .slice (some ⟨g, 0, none⟩) 1 c) (hcell : w.cell? ⟨g, 0, none⟩ = some y.p) (hl : L.length ≤ 1000000) (hbase : base ≤ w.heap.size)
    (h : ∀ v' w', Pw w' base v' (L ++ [y]) → w.grownBy w' v.ownBlock → (v'.ownBlock = v.ownBlock ∨ v'.ownBlock = some w.heap.size) → K (a.put o.dst v') w') :
    if Region.wanted o (yielded ops a.tmps) = true then Oper.wp Try.prog o a w K Q else E := by
  rw [if_pos hgd]
  obtain ⟨v', w', k1, k2, k3, k4⟩ := run_app_p w o.type base v L hown g c y hcell hl hbase
  unfold Oper.wp
  simp [execOp, ho, resolve, invoke, builtin, hs, hx, k1, Result.andThen]
  exact h v' w' k2 k3 k4
theorem or_0 (k : Nat) (h : k < 4611686018427387904) : bits BinOp.or IntKind.u64 (IntKind.u64.wrap ((k : Int) * 4)) 0 = ((4 * k : Nat) : Int) := by
  have := bits_or_u64_nat (k * 4) 0 (by omega) (by decide)
  rw [Nat.or_zero] at this
  rw [show IntKind.u64.wrap ((k : Int) * 4) = ((k * 4 : Nat) : Int) from by rw [IntKind.wrap_u64]; omega]
  exact this.trans (by omega)
theorem or_1 (k : Nat) (h : k < 4611686018427387904) : bits BinOp.or IntKind.u64 (IntKind.u64.wrap ((k : Int) * 4)) 1 = ((4 * k + 1 : Nat) : Int) := by
  have := bits_or_u64_nat (k * 4) 1 (by omega) (by decide)
  have e : (k * 4) ||| 1 = 4 * k + 1 := by
    have := Nat.two_pow_add_eq_or_of_lt (i := 2) (b := 1) (by decide) k
    rw [show k * 4 = 2 ^ 2 * k from by omega]
    rw [← this]
  rw [e] at this
  rw [show IntKind.u64.wrap ((k : Int) * 4) = ((k * 4 : Nat) : Int) from by rw [IntKind.wrap_u64]; omega]
  exact this
section
variable {w0 W W' : World} {s x : Nat} {v0 v1 v : Value} {E0 E1 L : List En} {X : XS} {O : Nat → Prop} {T : TS}
theorem Str.c0 (h : Str w0 W x O T) : W.cell? ⟨x, 0, none⟩ = some (.int .u64 T.id) := by
  obtain ⟨q, p, Oq, Op, va, vc, rfl, h⟩ := h
  exact h.c0
set_option maxRecDepth 100000 in
set_option maxHeartbeats 8000000 in
theorem reach_0 (h : Tt w0 W s v0 v1 E0 E1 X) (e : Str w0 W x O T) (hap : ∀ Q ∈ TtO s v0 v1 E0 E1, ∀ b, O b → ¬ Q b) (pl : Nat) (hid : T.id = 4 * pl) (hpl : pl ≤ 100000) (hge : E0.length ≤ pl) (hmsd : X.msd < 18446744073709551616) (htsd : X.tsd < 18446744073709551616) :
    Calls Try.prog 25 #[.pointer (some ⟨s, 0, none⟩), .pointer (some ⟨x, 0, none⟩)] W (RePo0 w0 W s v0 v1 E0 E1 X x O T pl) := by
  have hR : Rc0 w0 W W s v0 v1 E0 E1 X x O T v0 [] := ⟨by simpa using h, e, by simpa using hap, rfl, Kept.refl _ _, fun b hb => .inl hb, fun e he => by cases he⟩
  have c25 := h.c25
  have cx := e.c0
  obtain ⟨iv, hiv⟩ : ∃ iv, iv = 4 * pl := ⟨_, rfl⟩
  rw [hid, ← hiv] at cx
  obtain ⟨A0, c0, rfl, _, hm, _⟩ := pw_open h.r0
  unfold maxLen at hm
  obtain ⟨n0, hn⟩ : ∃ n, E0.length = n := ⟨_, rfl⟩
  have b1 := and_one iv (by omega)
  rw [show iv % 2 = 0 from by omega] at b1
  have hsh : (iv : Int) / 4 = (pl : Int) := by omega
  have HR := Lib.hid hR
  have HID := Lib.hid hid
  have HIV := Lib.hid hiv
  rw [hn] at c25 HR ⊢
  clear h e hap hR hid hiv
  go_enter Try.func25, Try.ntmps25
  go_upto_region 2 with fail
  go_loopg [5] pl (fun kx s5 wr => ∃ (k : Nat) (F : List En) (v : Value), s5 = .int .u64 k ∧ n0 + F.length = k ∧ k ≤ pl ∧ pl - k ≤ kx ∧ Hid (Rc0 w0 W wr s (.slice A0 n0 c0) v1 E0 E1 X x O T v F))
  case atStart => exact ⟨_, [], _, rfl, rfl, by omega, by omega, HR⟩
  case round =>
    clear HR
    obtain ⟨k, F, v, rfl, hkF, hkpl, hkx, HRC⟩ := hrel
    have cx2 := HRC.out.st.c0
    rw [HID.out, ← HIV.out] at cx2
    by_cases hgo : k < pl
    · have hkz : (k : Int) < (pl : Int) := by omega
      go_upto_region 4 with fail
      obtain ⟨Y, hY⟩ : ∃ z, wr.drew = z := ⟨_, rfl⟩
      have hRY : Rc0 w0 W Y s (.slice A0 n0 c0) (v1) E0 E1 X x O T v F := by rw [← hY]; exact HRC.out.below (belowN (Below.refl _ _) 1)
      clear HRC
      have HRC := Lib.hid hRY
      have hHeld : Y.cell? ⟨s, 25, none⟩ = some v := hRY.tt.c25
      have HKC : Hid (∀ w1, Below Y.heap.size Y w1 → w1.cell? ⟨s, 25, none⟩ = some v) := Lib.hid (fun w1 k => (k.cell (p := ⟨s, 25, none⟩) hRY.tt.at_.lt).trans hRY.tt.c25)
      have HSV : Hid (¬ obk v s) := Lib.hid (fun e => hRY.tt.dj 1 0 _ _ rfl rfl (by decide) s e rfl)
      have HKG : Hid (∀ w1 w9, Below Y.heap.size Y w1 → w1.grownBy w9 v.ownBlock → w9.cell? ⟨s, 25, none⟩ = some v) := Lib.hid (fun w1 w9 k g => ((Kept.of_grown (S := obk v) g fun k hk => .inl hk).cell (p := ⟨s, 25, none⟩) (Nat.lt_of_lt_of_le hRY.tt.at_.lt k.size) HSV.out).trans (HKC.out w1 k))
      have HZ : Hid (w0.heap.size ≤ Y.heap.size) := Lib.hid hRY.tt.bl.size
      have HLN : Hid ((E0 ++ F).length ≤ 1000000) := Lib.hid (by rw [List.length_append]; omega)
      have HFR : Hid (Calls Try.prog 26 #[.pointer (some ⟨s, 0, none⟩), .int .u64 (bits BinOp.or IntKind.u64 (IntKind.u64.wrap ((k : Int) * 4)) 0)] Y (FrPo w0 Y X (4 * (E0.length + F.length)))) := Lib.hid (by rw [or_0 k (by omega), hn, hkF]; exact fresh_any hRY.tt (4 * k) (by omega) hmsd htsd)
      refine wp_region_tail (S := (fun W => W.cell? ⟨s, 25, none⟩ = some v)) (D := 19) (by kernel_rfl) ?_
      rw [hY]
      clear hY
      refine tail_pure 0 (some 28) (v := ?_) rfl (Or.inl ⟨by rfl, ?_⟩) (fun _ => hHeld) ?_
      rotate_left
      · intro w hSw; (try dsimp only at hSw); go_simp; first | done | (with_reducible rfl)
      simp only [Act.put, List.setIfInBounds_toArray, List.set_cons_zero, List.set_cons_succ]
      refine tail_pure 1 (some 29) (v := ?_) rfl (Or.inl ⟨by rfl, ?_⟩) (fun _ => hHeld) ?_
      rotate_left
      · intro w hSw; (try dsimp only at hSw); go_simp; first | done | (with_reducible rfl)
      simp only [Act.put, List.setIfInBounds_toArray, List.set_cons_zero, List.set_cons_succ]
      refine tail_pure 2 (some 30) (v := ?_) rfl (Or.inl ⟨by rfl, ?_⟩) (fun _ => hHeld) ?_
      rotate_left
      · intro w hSw; (try dsimp only at hSw); go_simp; first | done | (with_reducible rfl)
      simp only [Act.put, List.setIfInBounds_toArray, List.set_cons_zero, List.set_cons_succ]
      refine tail_pure 3 (some 31) (v := ?_) rfl (Or.inl ⟨by rfl, ?_⟩) (fun _ => hHeld) ?_
      rotate_left
      · intro w hSw; (try dsimp only at hSw); go_simp; first | done | (with_reducible rfl)
      simp only [Act.put, List.setIfInBounds_toArray, List.set_cons_zero, List.set_cons_succ]
      refine tail_pure 4 (some 32) (v := ?_) rfl (Or.inl ⟨by rfl, ?_⟩) (fun _ => hHeld) ?_
      rotate_left
      · intro w hSw; (try dsimp only at hSw); go_simp; first | done | (with_reducible rfl)
      simp only [Act.put, List.setIfInBounds_toArray, List.set_cons_zero, List.set_cons_succ]
      refine tail_pure 5 (some 33) (v := ?_) rfl (Or.inl ⟨by rfl, ?_⟩) (fun _ => hHeld) ?_
      rotate_left
      · intro w hSw; (try dsimp only at hSw); go_simp; first | done | (with_reducible rfl)
      simp only [Act.put, List.setIfInBounds_toArray, List.set_cons_zero, List.set_cons_succ]
      refine tail_pure 6 (some 34) (v := ?_) rfl (Or.inl ⟨by rfl, ?_⟩) (fun _ => hHeld) ?_
      rotate_left
      · intro w hSw; (try dsimp only at hSw); go_simp; first | done | (with_reducible rfl)
      simp only [Act.put, List.setIfInBounds_toArray, List.set_cons_zero, List.set_cons_succ]
      refine tail_load 7 (some 35) [15, 19] (v := ?_) rfl (Or.inl ⟨by rfl, ?_⟩) hHeld ?_
      rotate_left
      · intro w hSw; (try dsimp only at hSw); go_simp; first | done | (with_reducible rfl)
      simp only [Act.put, List.setIfInBounds_toArray, List.set_cons_zero, List.set_cons_succ]
      refine tail_pure 8 (some 36) (v := ?_) rfl (Or.inl ⟨by rfl, ?_⟩) (fun _ => hHeld) ?_
      rotate_left
      · intro w hSw; (try dsimp only at hSw); go_simp; first | done | (with_reducible rfl)
      simp only [Act.put, List.setIfInBounds_toArray, List.set_cons_zero, List.set_cons_succ]
      refine tail_pure 9 (some 37) (v := ?_) rfl (Or.inl ⟨by rfl, ?_⟩) (fun _ => hHeld) ?_
      rotate_left
      · intro w hSw; (try dsimp only at hSw); go_simp; first | done | (with_reducible rfl)
      simp only [Act.put, List.setIfInBounds_toArray, List.set_cons_zero, List.set_cons_succ]
      refine tail_pure 10 (some 38) (v := ?_) rfl (Or.inl ⟨by rfl, ?_⟩) (fun _ => hHeld) ?_
      rotate_left
      · intro w hSw; (try dsimp only at hSw); go_simp; first | done | (with_reducible rfl)
      simp only [Act.put, List.setIfInBounds_toArray, List.set_cons_zero, List.set_cons_succ]
      refine tail_pure 11 (some 39) (v := ?_) rfl (Or.inl ⟨by rfl, ?_⟩) (fun _ => hHeld) ?_
      rotate_left
      · intro w hSw; (try dsimp only at hSw); go_simp; first | done | (with_reducible rfl)
      simp only [Act.put, List.setIfInBounds_toArray, List.set_cons_zero, List.set_cons_succ]
      refine tail_pure 12 (some 40) (v := ?_) rfl (Or.inl ⟨by rfl, ?_⟩) (fun _ => hHeld) ?_
      rotate_left
      · intro w hSw; (try dsimp only at hSw); go_simp; first | done | (with_reducible rfl)
      simp only [Act.put, List.setIfInBounds_toArray, List.set_cons_zero, List.set_cons_succ]
      refine tail_pure 16 (some 44) (v := ?_) rfl (Or.inl ⟨by rfl, ?_⟩) (fun _ => hHeld) ?_
      rotate_left
      · intro w hSw; (try dsimp only at hSw); go_simp; first | done | (with_reducible rfl)
      simp only [Act.put, List.setIfInBounds_toArray, List.set_cons_zero, List.set_cons_succ]
      refine tail_pure 17 (some 45) (v := ?_) rfl (Or.inl ⟨by rfl, ?_⟩) (fun _ => hHeld) ?_
      rotate_left
      · intro w hSw; (try dsimp only at hSw); go_simp; first | done | (with_reducible rfl)
      simp only [Act.put, List.setIfInBounds_toArray, List.set_cons_zero, List.set_cons_succ]
      refine wpTail.ready (rs := [13]) (by kernel_rfl) (by simp) ?_
      refine AllTail.cons rfl (fun K hK => ?_) (AllTail.nil)
      · go_simp
        go_wp2_with (go_at_call 26; (with_reducible refine HFR.out.mono ?_); rintro e w1 ⟨y, Oy, rfl, hy, hyn, hb1⟩; have HYS := Lib.hid hy; have HYN := Lib.hid hyn; have HB1 := Lib.hid hb1; clear hy hyn hb1)
        refine hK.out _ _ (HKC.out w1 HB1.out) (fun hHeld => ?_)
        clear hK K
        refine wpTail.ready (rs := [14]) (by kernel_rfl) (by simp) ?_
        refine AllTail.cons rfl (fun K hK => ?_) (AllTail.nil)
        · go_simp
          go_wp2_with (fail)
          refine hK.out _ _ (HKC.out _ (HB1.out.alloc HB1.out.size _)) (fun hHeld => ?_)
          clear hK K
          refine wpTail.ready (rs := [15]) (by kernel_rfl) (by simp) ?_
          refine AllTail.cons rfl (fun K hK => ?_) (AllTail.nil)
          · have hab := At.new w1 55 [.pointer (some ⟨y, 0, none⟩)]
            have hbx := HB1.out.alloc HB1.out.size (.cells #[.pointer (some ⟨y, 0, none⟩)] 55)
            have HBX := Lib.hid hbx
            have HRW2 := Lib.hid (ow_kept HRC.out.tt.r0 (Kept.of_below hbx (fun _ => False)) fun _ _ h => h)
            have HC9 : Hid ((w1.alloc (.cells #[.pointer (some ⟨y, 0, none⟩)] 55)).cell? ⟨w1.heap.size, 0, none⟩ = some (En.p ⟨y, Oy, frS X (4 * (E0.length + F.length))⟩)) := Lib.hid (by rw [hab.cell]; rfl)
            clear hab
            refine step_append_p (by rfl) (.tmp 35) (.tmp 42) (by rfl) w0.heap.size v (E0 ++ F) (by rfl) HRW2.out w1.heap.size 1 ⟨y, Oy, frS X (4 * (E0.length + F.length))⟩ (by rfl) HC9.out HLN.out (Nat.le_trans HZ.out hbx.size) ?_
            clear hbx
            intro v9 w9 h9 hg9 hv9
            obtain ⟨A9, n9, c9, rfl⟩ : ∃ (A : Option Addr) (n c : Nat), v9 = .slice A n c := by obtain ⟨A, c, h, _⟩ := pw_open h9; exact ⟨A, _, c, h⟩
            have f9 := (HRC.out.tt.at_.below HBX.out HRC.out.tt.at_.lt).kept (Kept.of_grown hg9 fun k hk => .inl hk) (HSV.out)
            refine hK.out _ _ (HKG.out _ w9 HBX.out hg9) (fun hHeld => ?_)
            clear hK K
            refine tail_pure 18 (some 46) (v := ?_) rfl (Or.inl ⟨by rfl, ?_⟩) (fun _ => hHeld) ?_
            rotate_left
            · intro w hSw; (try dsimp only at hSw); go_simp; first | done | (with_reducible rfl)
            simp only [Act.put, List.setIfInBounds_toArray, List.set_cons_zero, List.set_cons_succ]
            refine wpTail.ready (rs := [19]) (by kernel_rfl) (by simp) ?_
            refine AllTail.late rfl (by kernel_rfl) (fun K hK => ?_) AllTail.nil
            have fz := f9.frozen 25
            go_simp
            go_wp2_with (fail)
            refine hK.out _ _ ?_
            clear hK K
            refine wpTail.done (by kernel_rfl) ?_ _
            have HRN := Lib.hid (HRC.out.step HBX.out (HYS.out.below ((Below.refl _ _).alloc (Nat.le_refl _) _)) HYN.out h9 hg9 hv9)
            clear h9 hg9 hv9 f9
            go_wp2_with fail
            go_roundg (pl - (k + 1))
            case measure => omega
            case rel => exact ⟨k + 1, F ++ [⟨y, Oy, frS X (4 * (E0.length + F.length))⟩], _, by simp, by rw [List.length_append]; simp; omega, by omega, by omega, HRN⟩
    · have hkz : ¬ (k : Int) < (pl : Int) := by omega
      obtain rfl : k = pl := by omega
      go_upto_region 5 with fail
      obtain ⟨Y, hY⟩ : ∃ z, wr.drew = z := ⟨_, rfl⟩
      have hRY : Rc0 w0 W Y s (.slice A0 n0 c0) (v1) E0 E1 X x O T v F := by rw [← hY]; exact HRC.out.below (belowN (Below.refl _ _) 1)
      clear HRC
      have HRC := Lib.hid hRY
      have hHeld : Y.cell? ⟨s, 25, none⟩ = some v := hRY.tt.c25
      have HKC : Hid (∀ w1, Below Y.heap.size Y w1 → w1.cell? ⟨s, 25, none⟩ = some v) := Lib.hid (fun w1 k => (k.cell (p := ⟨s, 25, none⟩) hRY.tt.at_.lt).trans hRY.tt.c25)
      have HSV : Hid (¬ obk v s) := Lib.hid (fun e => hRY.tt.dj 1 0 _ _ rfl rfl (by decide) s e rfl)
      have HKG : Hid (∀ w1 w9, Below Y.heap.size Y w1 → w1.grownBy w9 v.ownBlock → w9.cell? ⟨s, 25, none⟩ = some v) := Lib.hid (fun w1 w9 k g => ((Kept.of_grown (S := obk v) g fun k hk => .inl hk).cell (p := ⟨s, 25, none⟩) (Nat.lt_of_lt_of_le hRY.tt.at_.lt k.size) HSV.out).trans (HKC.out w1 k))
      have HZ : Hid (w0.heap.size ≤ Y.heap.size) := Lib.hid hRY.tt.bl.size
      have HLN : Hid ((E0 ++ F).length ≤ 1000000) := Lib.hid (by rw [List.length_append]; omega)
      have HPL : Hid (k = E0.length + F.length) := Lib.hid (by rw [hn, hkF])
      refine wp_region_tail (S := (fun W => W.cell? ⟨s, 25, none⟩ = some v)) (D := 14) (by kernel_rfl) ?_
      rw [hY]
      clear hY
      refine tail_pure 0 (some 47) (v := ?_) rfl (Or.inl ⟨by rfl, ?_⟩) (fun _ => hHeld) ?_
      rotate_left
      · intro w hSw; (try dsimp only at hSw); go_simp; first | done | (with_reducible rfl)
      simp only [Act.put, List.setIfInBounds_toArray, List.set_cons_zero, List.set_cons_succ]
      refine tail_pure 1 (some 48) (v := ?_) rfl (Or.inl ⟨by rfl, ?_⟩) (fun _ => hHeld) ?_
      rotate_left
      · intro w hSw; (try dsimp only at hSw); go_simp; first | done | (with_reducible rfl)
      simp only [Act.put, List.setIfInBounds_toArray, List.set_cons_zero, List.set_cons_succ]
      refine tail_pure 2 (some 49) (v := ?_) rfl (Or.inl ⟨by rfl, ?_⟩) (fun _ => hHeld) ?_
      rotate_left
      · intro w hSw; (try dsimp only at hSw); go_simp; first | done | (with_reducible rfl)
      simp only [Act.put, List.setIfInBounds_toArray, List.set_cons_zero, List.set_cons_succ]
      refine tail_pure 3 (some 50) (v := ?_) rfl (Or.inl ⟨by rfl, ?_⟩) (fun _ => hHeld) ?_
      rotate_left
      · intro w hSw; (try dsimp only at hSw); go_simp; first | done | (with_reducible rfl)
      simp only [Act.put, List.setIfInBounds_toArray, List.set_cons_zero, List.set_cons_succ]
      refine tail_pure 4 (some 51) (v := ?_) rfl (Or.inl ⟨by rfl, ?_⟩) (fun _ => hHeld) ?_
      rotate_left
      · intro w hSw; (try dsimp only at hSw); go_simp; first | done | (with_reducible rfl)
      simp only [Act.put, List.setIfInBounds_toArray, List.set_cons_zero, List.set_cons_succ]
      refine tail_pure 5 (some 52) (v := ?_) rfl (Or.inl ⟨by rfl, ?_⟩) (fun _ => hHeld) ?_
      rotate_left
      · intro w hSw; (try dsimp only at hSw); go_simp; first | done | (with_reducible rfl)
      simp only [Act.put, List.setIfInBounds_toArray, List.set_cons_zero, List.set_cons_succ]
      refine tail_pure 6 (some 53) (v := ?_) rfl (Or.inl ⟨by rfl, ?_⟩) (fun _ => hHeld) ?_
      rotate_left
      · intro w hSw; (try dsimp only at hSw); go_simp; first | done | (with_reducible rfl)
      simp only [Act.put, List.setIfInBounds_toArray, List.set_cons_zero, List.set_cons_succ]
      refine tail_load 7 (some 54) [10, 14] (v := ?_) rfl (Or.inl ⟨by rfl, ?_⟩) hHeld ?_
      rotate_left
      · intro w hSw; (try dsimp only at hSw); go_simp; first | done | (with_reducible rfl)
      simp only [Act.put, List.setIfInBounds_toArray, List.set_cons_zero, List.set_cons_succ]
      refine tail_pure 8 (some 55) (v := ?_) rfl (Or.inl ⟨by rfl, ?_⟩) (fun _ => hHeld) ?_
      rotate_left
      · intro w hSw; (try dsimp only at hSw); go_simp; first | done | (with_reducible rfl)
      simp only [Act.put, List.setIfInBounds_toArray, List.set_cons_zero, List.set_cons_succ]
      refine tail_pure 11 (some 58) (v := ?_) rfl (Or.inl ⟨by rfl, ?_⟩) (fun _ => hHeld) ?_
      rotate_left
      · intro w hSw; (try dsimp only at hSw); go_simp; first | done | (with_reducible rfl)
      simp only [Act.put, List.setIfInBounds_toArray, List.set_cons_zero, List.set_cons_succ]
      refine tail_pure 12 (some 59) (v := ?_) rfl (Or.inl ⟨by rfl, ?_⟩) (fun _ => hHeld) ?_
      rotate_left
      · intro w hSw; (try dsimp only at hSw); go_simp; first | done | (with_reducible rfl)
      simp only [Act.put, List.setIfInBounds_toArray, List.set_cons_zero, List.set_cons_succ]
      refine wpTail.ready (rs := [9]) (by kernel_rfl) (by simp) ?_
      refine AllTail.cons rfl (fun K hK => ?_) (AllTail.nil)
      · go_simp
        go_wp2_with (fail)
        refine hK.out _ _ (HKC.out _ ((Below.refl _ _).alloc (Nat.le_refl _) _)) (fun hHeld => ?_)
        clear hK K
        refine wpTail.ready (rs := [10]) (by kernel_rfl) (by simp) ?_
        refine AllTail.cons rfl (fun K hK => ?_) (AllTail.nil)
        · have hab := At.new Y 55 [.pointer (some ⟨x, 0, none⟩)]
          have hbx := (Below.refl Y.heap.size Y).alloc (Nat.le_refl _) (.cells #[.pointer (some ⟨x, 0, none⟩)] 55)
          have HBX := Lib.hid hbx
          have HRW2 := Lib.hid (ow_kept HRC.out.tt.r0 (Kept.of_below hbx (fun _ => False)) fun _ _ h => h)
          have HC9 : Hid ((Y.alloc (.cells #[.pointer (some ⟨x, 0, none⟩)] 55)).cell? ⟨Y.heap.size, 0, none⟩ = some (En.p ⟨x, O, T⟩)) := Lib.hid (by rw [hab.cell]; rfl)
          clear hab
          refine step_append_p (by rfl) (.tmp 54) (.tmp 56) (by rfl) w0.heap.size v (E0 ++ F) (by rfl) HRW2.out Y.heap.size 1 ⟨x, O, T⟩ (by rfl) HC9.out HLN.out (Nat.le_trans HZ.out hbx.size) ?_
          clear hbx
          intro v9 w9 h9 hg9 hv9
          obtain ⟨A9, n9, c9, rfl⟩ : ∃ (A : Option Addr) (n c : Nat), v9 = .slice A n c := by obtain ⟨A, c, h, _⟩ := pw_open h9; exact ⟨A, _, c, h⟩
          have f9 := (HRC.out.tt.at_.below HBX.out HRC.out.tt.at_.lt).kept (Kept.of_grown hg9 fun k hk => .inl hk) (HSV.out)
          refine hK.out _ _ (HKG.out _ w9 HBX.out hg9) (fun hHeld => ?_)
          clear hK K
          refine tail_pure 13 (some 60) (v := ?_) rfl (Or.inl ⟨by rfl, ?_⟩) (fun _ => hHeld) ?_
          rotate_left
          · intro w hSw; (try dsimp only at hSw); go_simp; first | done | (with_reducible rfl)
          simp only [Act.put, List.setIfInBounds_toArray, List.set_cons_zero, List.set_cons_succ]
          refine wpTail.ready (rs := [14]) (by kernel_rfl) (by simp) ?_
          refine AllTail.late rfl (by kernel_rfl) (fun K hK => ?_) AllTail.nil
          have fz := f9.frozen 25
          go_simp
          go_wp2_with (fail)
          refine hK.out _ _ ?_
          clear hK K
          refine wpTail.done (by kernel_rfl) ?_ _
          have HRN := Lib.hid (HRC.out.last HBX.out (by rw [HID.out, hn, hkF]) h9 hg9 hv9)
          clear h9 hg9 hv9 f9
          go_wp2_with fail
          go_end0
          rw [HPL.out]
          exact HRN.out
set_option maxRecDepth 100000 in
set_option maxHeartbeats 8000000 in
theorem reach_1 (h : Tt w0 W s v0 v1 E0 E1 X) (e : Str w0 W x O T) (hap : ∀ Q ∈ TtO s v0 v1 E0 E1, ∀ b, O b → ¬ Q b) (pl : Nat) (hid : T.id = 4 * pl + 1) (hpl : pl ≤ 100000) (hge : E1.length ≤ pl) (hmsd : X.msd < 18446744073709551616) (htsd : X.tsd < 18446744073709551616) :
    Calls Try.prog 25 #[.pointer (some ⟨s, 0, none⟩), .pointer (some ⟨x, 0, none⟩)] W (RePo1 w0 W s v0 v1 E0 E1 X x O T pl) := by
  have hR : Rc1 w0 W W s v0 v1 E0 E1 X x O T v1 [] := ⟨by simpa using h, e, by simpa using hap, rfl, Kept.refl _ _, fun b hb => .inl hb, fun e he => by cases he⟩
  have c26 := h.c26
  have cx := e.c0
  obtain ⟨iv, hiv⟩ : ∃ iv, iv = 4 * pl + 1 := ⟨_, rfl⟩
  rw [hid, ← hiv] at cx
  obtain ⟨A1, c1, rfl, _, hm, _⟩ := pw_open h.r1
  unfold maxLen at hm
  obtain ⟨n1, hn⟩ : ∃ n, E1.length = n := ⟨_, rfl⟩
  have b1 := and_one iv (by omega)
  rw [show iv % 2 = 1 from by omega] at b1
  have hsh : (iv : Int) / 4 = (pl : Int) := by omega
  have HR := Lib.hid hR
  have HID := Lib.hid hid
  have HIV := Lib.hid hiv
  rw [hn] at c26 HR ⊢
  clear h e hap hR hid hiv
  go_enter Try.func25, Try.ntmps25
  go_upto_region 2 with fail
  go_loopg [5] pl (fun kx s5 wr => ∃ (k : Nat) (F : List En) (v : Value), s5 = .int .u64 k ∧ n1 + F.length = k ∧ k ≤ pl ∧ pl - k ≤ kx ∧ Hid (Rc1 w0 W wr s v0 (.slice A1 n1 c1) E0 E1 X x O T v F))
  case atStart => exact ⟨_, [], _, rfl, rfl, by omega, by omega, HR⟩
  case round =>
    clear HR
    obtain ⟨k, F, v, rfl, hkF, hkpl, hkx, HRC⟩ := hrel
    have cx2 := HRC.out.st.c0
    rw [HID.out, ← HIV.out] at cx2
    by_cases hgo : k < pl
    · have hkz : (k : Int) < (pl : Int) := by omega
      go_upto_region 4 with fail
      obtain ⟨Y, hY⟩ : ∃ z, wr.drew = z := ⟨_, rfl⟩
      have hRY : Rc1 w0 W Y s (v0) (.slice A1 n1 c1) E0 E1 X x O T v F := by rw [← hY]; exact HRC.out.below (belowN (Below.refl _ _) 1)
      clear HRC
      have HRC := Lib.hid hRY
      have hHeld : Y.cell? ⟨s, 26, none⟩ = some v := hRY.tt.c26
      have HKC : Hid (∀ w1, Below Y.heap.size Y w1 → w1.cell? ⟨s, 26, none⟩ = some v) := Lib.hid (fun w1 k => (k.cell (p := ⟨s, 26, none⟩) hRY.tt.at_.lt).trans hRY.tt.c26)
      have HSV : Hid (¬ obk v s) := Lib.hid (fun e => hRY.tt.dj 2 0 _ _ rfl rfl (by decide) s e rfl)
      have HKG : Hid (∀ w1 w9, Below Y.heap.size Y w1 → w1.grownBy w9 v.ownBlock → w9.cell? ⟨s, 26, none⟩ = some v) := Lib.hid (fun w1 w9 k g => ((Kept.of_grown (S := obk v) g fun k hk => .inl hk).cell (p := ⟨s, 26, none⟩) (Nat.lt_of_lt_of_le hRY.tt.at_.lt k.size) HSV.out).trans (HKC.out w1 k))
      have HZ : Hid (w0.heap.size ≤ Y.heap.size) := Lib.hid hRY.tt.bl.size
      have HLN : Hid ((E1 ++ F).length ≤ 1000000) := Lib.hid (by rw [List.length_append]; omega)
      have HFR : Hid (Calls Try.prog 26 #[.pointer (some ⟨s, 0, none⟩), .int .u64 (bits BinOp.or IntKind.u64 (IntKind.u64.wrap ((k : Int) * 4)) 1)] Y (FrPo w0 Y X (4 * (E1.length + F.length) + 1))) := Lib.hid (by rw [or_1 k (by omega), hn, hkF]; exact fresh_any hRY.tt (4 * k + 1) (by omega) hmsd htsd)
      refine wp_region_tail (S := (fun W => W.cell? ⟨s, 26, none⟩ = some v)) (D := 19) (by kernel_rfl) ?_
      rw [hY]
      clear hY
      refine tail_pure 0 (some 28) (v := ?_) rfl (Or.inl ⟨by rfl, ?_⟩) (fun _ => hHeld) ?_
      rotate_left
      · intro w hSw; (try dsimp only at hSw); go_simp; first | done | (with_reducible rfl)
      simp only [Act.put, List.setIfInBounds_toArray, List.set_cons_zero, List.set_cons_succ]
      refine tail_pure 1 (some 29) (v := ?_) rfl (Or.inl ⟨by rfl, ?_⟩) (fun _ => hHeld) ?_
      rotate_left
      · intro w hSw; (try dsimp only at hSw); go_simp; first | done | (with_reducible rfl)
      simp only [Act.put, List.setIfInBounds_toArray, List.set_cons_zero, List.set_cons_succ]
      refine tail_pure 2 (some 30) (v := ?_) rfl (Or.inl ⟨by rfl, ?_⟩) (fun _ => hHeld) ?_
      rotate_left
      · intro w hSw; (try dsimp only at hSw); go_simp; first | done | (with_reducible rfl)
      simp only [Act.put, List.setIfInBounds_toArray, List.set_cons_zero, List.set_cons_succ]
      refine tail_pure 3 (some 31) (v := ?_) rfl (Or.inl ⟨by rfl, ?_⟩) (fun _ => hHeld) ?_
      rotate_left
      · intro w hSw; (try dsimp only at hSw); go_simp; first | done | (with_reducible rfl)
      simp only [Act.put, List.setIfInBounds_toArray, List.set_cons_zero, List.set_cons_succ]
      refine tail_pure 4 (some 32) (v := ?_) rfl (Or.inl ⟨by rfl, ?_⟩) (fun _ => hHeld) ?_
      rotate_left
      · intro w hSw; (try dsimp only at hSw); go_simp; first | done | (with_reducible rfl)
      simp only [Act.put, List.setIfInBounds_toArray, List.set_cons_zero, List.set_cons_succ]
      refine tail_pure 5 (some 33) (v := ?_) rfl (Or.inl ⟨by rfl, ?_⟩) (fun _ => hHeld) ?_
      rotate_left
      · intro w hSw; (try dsimp only at hSw); go_simp; first | done | (with_reducible rfl)
      simp only [Act.put, List.setIfInBounds_toArray, List.set_cons_zero, List.set_cons_succ]
      refine tail_pure 6 (some 34) (v := ?_) rfl (Or.inl ⟨by rfl, ?_⟩) (fun _ => hHeld) ?_
      rotate_left
      · intro w hSw; (try dsimp only at hSw); go_simp; first | done | (with_reducible rfl)
      simp only [Act.put, List.setIfInBounds_toArray, List.set_cons_zero, List.set_cons_succ]
      refine tail_load 7 (some 35) [15, 19] (v := ?_) rfl (Or.inl ⟨by rfl, ?_⟩) hHeld ?_
      rotate_left
      · intro w hSw; (try dsimp only at hSw); go_simp; first | done | (with_reducible rfl)
      simp only [Act.put, List.setIfInBounds_toArray, List.set_cons_zero, List.set_cons_succ]
      refine tail_pure 8 (some 36) (v := ?_) rfl (Or.inl ⟨by rfl, ?_⟩) (fun _ => hHeld) ?_
      rotate_left
      · intro w hSw; (try dsimp only at hSw); go_simp; first | done | (with_reducible rfl)
      simp only [Act.put, List.setIfInBounds_toArray, List.set_cons_zero, List.set_cons_succ]
      refine tail_pure 9 (some 37) (v := ?_) rfl (Or.inl ⟨by rfl, ?_⟩) (fun _ => hHeld) ?_
      rotate_left
      · intro w hSw; (try dsimp only at hSw); go_simp; first | done | (with_reducible rfl)
      simp only [Act.put, List.setIfInBounds_toArray, List.set_cons_zero, List.set_cons_succ]
      refine tail_pure 10 (some 38) (v := ?_) rfl (Or.inl ⟨by rfl, ?_⟩) (fun _ => hHeld) ?_
      rotate_left
      · intro w hSw; (try dsimp only at hSw); go_simp; first | done | (with_reducible rfl)
      simp only [Act.put, List.setIfInBounds_toArray, List.set_cons_zero, List.set_cons_succ]
      refine tail_pure 11 (some 39) (v := ?_) rfl (Or.inl ⟨by rfl, ?_⟩) (fun _ => hHeld) ?_
      rotate_left
      · intro w hSw; (try dsimp only at hSw); go_simp; first | done | (with_reducible rfl)
      simp only [Act.put, List.setIfInBounds_toArray, List.set_cons_zero, List.set_cons_succ]
      refine tail_pure 12 (some 40) (v := ?_) rfl (Or.inl ⟨by rfl, ?_⟩) (fun _ => hHeld) ?_
      rotate_left
      · intro w hSw; (try dsimp only at hSw); go_simp; first | done | (with_reducible rfl)
      simp only [Act.put, List.setIfInBounds_toArray, List.set_cons_zero, List.set_cons_succ]
      refine tail_pure 16 (some 44) (v := ?_) rfl (Or.inl ⟨by rfl, ?_⟩) (fun _ => hHeld) ?_
      rotate_left
      · intro w hSw; (try dsimp only at hSw); go_simp; first | done | (with_reducible rfl)
      simp only [Act.put, List.setIfInBounds_toArray, List.set_cons_zero, List.set_cons_succ]
      refine tail_pure 17 (some 45) (v := ?_) rfl (Or.inl ⟨by rfl, ?_⟩) (fun _ => hHeld) ?_
      rotate_left
      · intro w hSw; (try dsimp only at hSw); go_simp; first | done | (with_reducible rfl)
      simp only [Act.put, List.setIfInBounds_toArray, List.set_cons_zero, List.set_cons_succ]
      refine wpTail.ready (rs := [13]) (by kernel_rfl) (by simp) ?_
      refine AllTail.cons rfl (fun K hK => ?_) (AllTail.nil)
      · go_simp
        go_wp2_with (go_at_call 26; (with_reducible refine HFR.out.mono ?_); rintro e w1 ⟨y, Oy, rfl, hy, hyn, hb1⟩; have HYS := Lib.hid hy; have HYN := Lib.hid hyn; have HB1 := Lib.hid hb1; clear hy hyn hb1)
        refine hK.out _ _ (HKC.out w1 HB1.out) (fun hHeld => ?_)
        clear hK K
        refine wpTail.ready (rs := [14]) (by kernel_rfl) (by simp) ?_
        refine AllTail.cons rfl (fun K hK => ?_) (AllTail.nil)
        · go_simp
          go_wp2_with (fail)
          refine hK.out _ _ (HKC.out _ (HB1.out.alloc HB1.out.size _)) (fun hHeld => ?_)
          clear hK K
          refine wpTail.ready (rs := [15]) (by kernel_rfl) (by simp) ?_
          refine AllTail.cons rfl (fun K hK => ?_) (AllTail.nil)
          · have hab := At.new w1 55 [.pointer (some ⟨y, 0, none⟩)]
            have hbx := HB1.out.alloc HB1.out.size (.cells #[.pointer (some ⟨y, 0, none⟩)] 55)
            have HBX := Lib.hid hbx
            have HRW2 := Lib.hid (ow_kept HRC.out.tt.r1 (Kept.of_below hbx (fun _ => False)) fun _ _ h => h)
            have HC9 : Hid ((w1.alloc (.cells #[.pointer (some ⟨y, 0, none⟩)] 55)).cell? ⟨w1.heap.size, 0, none⟩ = some (En.p ⟨y, Oy, frS X (4 * (E1.length + F.length) + 1)⟩)) := Lib.hid (by rw [hab.cell]; rfl)
            clear hab
            refine step_append_p (by rfl) (.tmp 35) (.tmp 42) (by rfl) w0.heap.size v (E1 ++ F) (by rfl) HRW2.out w1.heap.size 1 ⟨y, Oy, frS X (4 * (E1.length + F.length) + 1)⟩ (by rfl) HC9.out HLN.out (Nat.le_trans HZ.out hbx.size) ?_
            clear hbx
            intro v9 w9 h9 hg9 hv9
            obtain ⟨A9, n9, c9, rfl⟩ : ∃ (A : Option Addr) (n c : Nat), v9 = .slice A n c := by obtain ⟨A, c, h, _⟩ := pw_open h9; exact ⟨A, _, c, h⟩
            have f9 := (HRC.out.tt.at_.below HBX.out HRC.out.tt.at_.lt).kept (Kept.of_grown hg9 fun k hk => .inl hk) (HSV.out)
            refine hK.out _ _ (HKG.out _ w9 HBX.out hg9) (fun hHeld => ?_)
            clear hK K
            refine tail_pure 18 (some 46) (v := ?_) rfl (Or.inl ⟨by rfl, ?_⟩) (fun _ => hHeld) ?_
            rotate_left
            · intro w hSw; (try dsimp only at hSw); go_simp; first | done | (with_reducible rfl)
            simp only [Act.put, List.setIfInBounds_toArray, List.set_cons_zero, List.set_cons_succ]
            refine wpTail.ready (rs := [19]) (by kernel_rfl) (by simp) ?_
            refine AllTail.late rfl (by kernel_rfl) (fun K hK => ?_) AllTail.nil
            have fz := f9.frozen 26
            go_simp
            go_wp2_with (fail)
            refine hK.out _ _ ?_
            clear hK K
            refine wpTail.done (by kernel_rfl) ?_ _
            have HRN := Lib.hid (HRC.out.step HBX.out (HYS.out.below ((Below.refl _ _).alloc (Nat.le_refl _) _)) HYN.out h9 hg9 hv9)
            clear h9 hg9 hv9 f9
            go_wp2_with fail
            go_roundg (pl - (k + 1))
            case measure => omega
            case rel => exact ⟨k + 1, F ++ [⟨y, Oy, frS X (4 * (E1.length + F.length) + 1)⟩], _, by simp, by rw [List.length_append]; simp; omega, by omega, by omega, HRN⟩
    · have hkz : ¬ (k : Int) < (pl : Int) := by omega
      obtain rfl : k = pl := by omega
      go_upto_region 5 with fail
      obtain ⟨Y, hY⟩ : ∃ z, wr.drew = z := ⟨_, rfl⟩
      have hRY : Rc1 w0 W Y s (v0) (.slice A1 n1 c1) E0 E1 X x O T v F := by rw [← hY]; exact HRC.out.below (belowN (Below.refl _ _) 1)
      clear HRC
      have HRC := Lib.hid hRY
      have hHeld : Y.cell? ⟨s, 26, none⟩ = some v := hRY.tt.c26
      have HKC : Hid (∀ w1, Below Y.heap.size Y w1 → w1.cell? ⟨s, 26, none⟩ = some v) := Lib.hid (fun w1 k => (k.cell (p := ⟨s, 26, none⟩) hRY.tt.at_.lt).trans hRY.tt.c26)
      have HSV : Hid (¬ obk v s) := Lib.hid (fun e => hRY.tt.dj 2 0 _ _ rfl rfl (by decide) s e rfl)
      have HKG : Hid (∀ w1 w9, Below Y.heap.size Y w1 → w1.grownBy w9 v.ownBlock → w9.cell? ⟨s, 26, none⟩ = some v) := Lib.hid (fun w1 w9 k g => ((Kept.of_grown (S := obk v) g fun k hk => .inl hk).cell (p := ⟨s, 26, none⟩) (Nat.lt_of_lt_of_le hRY.tt.at_.lt k.size) HSV.out).trans (HKC.out w1 k))
      have HZ : Hid (w0.heap.size ≤ Y.heap.size) := Lib.hid hRY.tt.bl.size
      have HLN : Hid ((E1 ++ F).length ≤ 1000000) := Lib.hid (by rw [List.length_append]; omega)
      have HPL : Hid (k = E1.length + F.length) := Lib.hid (by rw [hn, hkF])
      refine wp_region_tail (S := (fun W => W.cell? ⟨s, 26, none⟩ = some v)) (D := 14) (by kernel_rfl) ?_
      rw [hY]
      clear hY
      refine tail_pure 0 (some 47) (v := ?_) rfl (Or.inl ⟨by rfl, ?_⟩) (fun _ => hHeld) ?_
      rotate_left
      · intro w hSw; (try dsimp only at hSw); go_simp; first | done | (with_reducible rfl)
      simp only [Act.put, List.setIfInBounds_toArray, List.set_cons_zero, List.set_cons_succ]
      refine tail_pure 1 (some 48) (v := ?_) rfl (Or.inl ⟨by rfl, ?_⟩) (fun _ => hHeld) ?_
      rotate_left
      · intro w hSw; (try dsimp only at hSw); go_simp; first | done | (with_reducible rfl)
      simp only [Act.put, List.setIfInBounds_toArray, List.set_cons_zero, List.set_cons_succ]
      refine tail_pure 2 (some 49) (v := ?_) rfl (Or.inl ⟨by rfl, ?_⟩) (fun _ => hHeld) ?_
      rotate_left
      · intro w hSw; (try dsimp only at hSw); go_simp; first | done | (with_reducible rfl)
      simp only [Act.put, List.setIfInBounds_toArray, List.set_cons_zero, List.set_cons_succ]
      refine tail_pure 3 (some 50) (v := ?_) rfl (Or.inl ⟨by rfl, ?_⟩) (fun _ => hHeld) ?_
      rotate_left
      · intro w hSw; (try dsimp only at hSw); go_simp; first | done | (with_reducible rfl)
      simp only [Act.put, List.setIfInBounds_toArray, List.set_cons_zero, List.set_cons_succ]
      refine tail_pure 4 (some 51) (v := ?_) rfl (Or.inl ⟨by rfl, ?_⟩) (fun _ => hHeld) ?_
      rotate_left
      · intro w hSw; (try dsimp only at hSw); go_simp; first | done | (with_reducible rfl)
      simp only [Act.put, List.setIfInBounds_toArray, List.set_cons_zero, List.set_cons_succ]
      refine tail_pure 5 (some 52) (v := ?_) rfl (Or.inl ⟨by rfl, ?_⟩) (fun _ => hHeld) ?_
      rotate_left
      · intro w hSw; (try dsimp only at hSw); go_simp; first | done | (with_reducible rfl)
      simp only [Act.put, List.setIfInBounds_toArray, List.set_cons_zero, List.set_cons_succ]
      refine tail_pure 6 (some 53) (v := ?_) rfl (Or.inl ⟨by rfl, ?_⟩) (fun _ => hHeld) ?_
      rotate_left
      · intro w hSw; (try dsimp only at hSw); go_simp; first | done | (with_reducible rfl)
      simp only [Act.put, List.setIfInBounds_toArray, List.set_cons_zero, List.set_cons_succ]
      refine tail_load 7 (some 54) [10, 14] (v := ?_) rfl (Or.inl ⟨by rfl, ?_⟩) hHeld ?_
      rotate_left
      · intro w hSw; (try dsimp only at hSw); go_simp; first | done | (with_reducible rfl)
      simp only [Act.put, List.setIfInBounds_toArray, List.set_cons_zero, List.set_cons_succ]
      refine tail_pure 8 (some 55) (v := ?_) rfl (Or.inl ⟨by rfl, ?_⟩) (fun _ => hHeld) ?_
      rotate_left
      · intro w hSw; (try dsimp only at hSw); go_simp; first | done | (with_reducible rfl)
      simp only [Act.put, List.setIfInBounds_toArray, List.set_cons_zero, List.set_cons_succ]
      refine tail_pure 11 (some 58) (v := ?_) rfl (Or.inl ⟨by rfl, ?_⟩) (fun _ => hHeld) ?_
      rotate_left
      · intro w hSw; (try dsimp only at hSw); go_simp; first | done | (with_reducible rfl)
      simp only [Act.put, List.setIfInBounds_toArray, List.set_cons_zero, List.set_cons_succ]
      refine tail_pure 12 (some 59) (v := ?_) rfl (Or.inl ⟨by rfl, ?_⟩) (fun _ => hHeld) ?_
      rotate_left
      · intro w hSw; (try dsimp only at hSw); go_simp; first | done | (with_reducible rfl)
      simp only [Act.put, List.setIfInBounds_toArray, List.set_cons_zero, List.set_cons_succ]
      refine wpTail.ready (rs := [9]) (by kernel_rfl) (by simp) ?_
      refine AllTail.cons rfl (fun K hK => ?_) (AllTail.nil)
      · go_simp
        go_wp2_with (fail)
        refine hK.out _ _ (HKC.out _ ((Below.refl _ _).alloc (Nat.le_refl _) _)) (fun hHeld => ?_)
        clear hK K
        refine wpTail.ready (rs := [10]) (by kernel_rfl) (by simp) ?_
        refine AllTail.cons rfl (fun K hK => ?_) (AllTail.nil)
        · have hab := At.new Y 55 [.pointer (some ⟨x, 0, none⟩)]
          have hbx := (Below.refl Y.heap.size Y).alloc (Nat.le_refl _) (.cells #[.pointer (some ⟨x, 0, none⟩)] 55)
          have HBX := Lib.hid hbx
          have HRW2 := Lib.hid (ow_kept HRC.out.tt.r1 (Kept.of_below hbx (fun _ => False)) fun _ _ h => h)
          have HC9 : Hid ((Y.alloc (.cells #[.pointer (some ⟨x, 0, none⟩)] 55)).cell? ⟨Y.heap.size, 0, none⟩ = some (En.p ⟨x, O, T⟩)) := Lib.hid (by rw [hab.cell]; rfl)
          clear hab
          refine step_append_p (by rfl) (.tmp 54) (.tmp 56) (by rfl) w0.heap.size v (E1 ++ F) (by rfl) HRW2.out Y.heap.size 1 ⟨x, O, T⟩ (by rfl) HC9.out HLN.out (Nat.le_trans HZ.out hbx.size) ?_
          clear hbx
          intro v9 w9 h9 hg9 hv9
          obtain ⟨A9, n9, c9, rfl⟩ : ∃ (A : Option Addr) (n c : Nat), v9 = .slice A n c := by obtain ⟨A, c, h, _⟩ := pw_open h9; exact ⟨A, _, c, h⟩
          have f9 := (HRC.out.tt.at_.below HBX.out HRC.out.tt.at_.lt).kept (Kept.of_grown hg9 fun k hk => .inl hk) (HSV.out)
          refine hK.out _ _ (HKG.out _ w9 HBX.out hg9) (fun hHeld => ?_)
          clear hK K
          refine tail_pure 13 (some 60) (v := ?_) rfl (Or.inl ⟨by rfl, ?_⟩) (fun _ => hHeld) ?_
          rotate_left
          · intro w hSw; (try dsimp only at hSw); go_simp; first | done | (with_reducible rfl)
          simp only [Act.put, List.setIfInBounds_toArray, List.set_cons_zero, List.set_cons_succ]
          refine wpTail.ready (rs := [14]) (by kernel_rfl) (by simp) ?_
          refine AllTail.late rfl (by kernel_rfl) (fun K hK => ?_) AllTail.nil
          have fz := f9.frozen 26
          go_simp
          go_wp2_with (fail)
          refine hK.out _ _ ?_
          clear hK K
          refine wpTail.done (by kernel_rfl) ?_ _
          have HRN := Lib.hid (HRC.out.last HBX.out (by rw [HID.out, hn, hkF]) h9 hg9 hv9)
          clear h9 hg9 hv9 f9
          go_wp2_with fail
          go_end0
          rw [HPL.out]
          exact HRN.out
end
end Go.Proofs.Ytndaikeeikimeaa
