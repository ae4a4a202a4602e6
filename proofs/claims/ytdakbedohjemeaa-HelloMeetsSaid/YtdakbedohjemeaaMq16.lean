/-
  hello.Side: take, Feed.
-/
import Derived.Test.YtdakbedohjemeaaYl
namespace Go.Proofs.Ytdakbedohjemeaa
section
set_option linter.unusedVariables false
set_option linter.unusedSimpArgs false
open Go.RowKit Go.ChangeShapes Go.WideShapes Go.Deep
section
variable {w w' w1 w2 : World} {base p : Nat} {vo vh vh' : Value} {O : Nat → Prop} {X X' : HS}
/-- What append leaves of what is held, and the store behind it. -/
theorem Hl.put4 {bs' : List Int} (h : Hl w base p vo vh X) (hw1 : Below w.heap.size w w1) (hown : Own w2 base 5 vh' bs') (hg : w1.grownBy w2 vh.ownBlock)
    (hv : vh'.ownBlock = vh.ownBlock ∨ vh'.ownBlock = some w1.heap.size) :
    Hl (w2.setCell ⟨p, 4, none⟩ vh') base p vo vh' (withHeld X bs') ∧ (∀ j, vh'.ownBlock = some j → vh.ownBlock = some j ∨ w.heap.size ≤ j) ∧ Kept (hO p vo vh) w (w2.setCell ⟨p, 4, none⟩ vh') ∧ w2.cell? ⟨p, 4, none⟩ = some vh ∧ w2.frozen? ⟨p, 4, none⟩ = false := by
  have hlt := h.at_.lt
  have hsz := hw1.size
  have h1 := h.below hw1
  have k1 : Kept (hO p vo vh) w w1 := Kept.of_below hw1 _
  have k2 : Kept (fun j => vh.ownBlock = some j) w1 w2 := Kept.of_grown hg (fun k hk => .inl hk)
  have A2 := h1.at_.kept k2 h.ah
  have O2 := h1.own.kept k2 fun j hj e => h.oh j hj e
  have hne' : vh'.ownBlock ≠ some p := by
    rcases hv with h' | h'
    · rw [h']; exact h.ah
    · rw [h']; intro e; injection e; omega
  have k3 : Kept (· = p) w2 (w2.setCell ⟨p, 4, none⟩ vh') := (Kept.refl (· = p) _).setAt 4 vh'
  have hob := h.own.block_lt
  have hj : ∀ j, vh'.ownBlock = some j → vh.ownBlock = some j ∨ w.heap.size ≤ j := by
    rcases hv with h' | h'
    · intro j e; rw [h'] at e; exact .inl e
    · intro j e; rw [h'] at e; injection e; exact .inr (by omega)
  refine ⟨⟨A2.set 4 vh', h.bp, O2.kept k3 fun j hj e => h.ao (by rw [← e]; exact hj), hown.kept k3 fun j hj e => hne' (by rw [← e]; exact hj), h.ao, hne', fun j e e' => ?_⟩, hj, ?_, A2.cell 4, A2.frozen 4⟩
  · rcases hj j e' with h' | h'
    · exact h.oh j e h'
    · have := (hob j e).2; omega
  · exact (k1.trans (k2.mono fun j hj => .inl (.inr (.inr hj)))).trans (k3.mono fun j hj => .inl (.inl hj))
/-- What is held is let go. -/
theorem Hl.clear4 (h : Hl w base p vo vh X) : Hl (w.setCell ⟨p, 4, none⟩ (.slice none 0 0)) base p vo (.slice none 0 0) (noHeld X) := by
  have k3 : Kept (· = p) w (w.setCell ⟨p, 4, none⟩ (.slice none 0 0)) := (Kept.refl (· = p) _).setAt 4 _
  exact ⟨h.at_.set 4 _, h.bp, h.own.kept k3 fun j hj e => h.ao (by rw [← e]; exact hj), Own.none_ _ _ _, h.ao, by simp [Value.ownBlock], fun j _ e => by simp [Value.ownBlock] at e⟩
theorem hO_nil {j : Nat} (h : hO p vo (.slice none 0 0) j) (vh : Value) : hO p vo vh j := by
  rcases h with e | e | e
  · exact .inl e
  · exact .inr (.inl e)
  · simp [Value.ownBlock] at e
theorem two_of (H : List Int) (h : 3 ≤ H.length) : takeN (takeN (H, false) 1) 2 = (H.drop 3, false) ∧ twoR (takeN (H, false) 1) = numTwo H := by
  have e1 : takeN (H, false) 1 = (H.drop 1, false) := by unfold takeN; rw [if_pos ⟨by omega, by show (1:Int) ≤ H.length; omega⟩]; rfl
  have e2 : takeN (H.drop 1, false) 2 = (H.drop 3, false) := by
    unfold takeN
    rw [if_pos ⟨by omega, by show (2:Int) ≤ ((H.drop 1).length : Nat); rw [List.length_drop]; omega⟩]
    show ((H.drop 1).drop 2, false) = _
    rw [List.drop_drop]
  rw [e1]
  refine ⟨e2, ?_⟩
  unfold twoR takeR numTwo
  rw [if_pos ⟨by omega, by show (2:Int) ≤ ((H.drop 1).length : Nat); rw [List.length_drop]; omega⟩]
  match H, h with
  | a :: b :: c :: r, _ => rfl
theorem numTwo_bd (H : List Int) (h : Byt H) : 0 ≤ numTwo H ∧ numTwo H < 65536 := by
  have := h.getD 1
  have := h.getD 2
  unfold numTwo
  omega
set_option maxRecDepth 100000 in
set_option maxHeartbeats 4000000 in
theorem h_take (h : Hm w base p O X) (hk : X.ok) (space x : Int) (hx : 0 ≤ x ∧ x < 256) (hbase : base ≤ w.heap.size) :
    Calls Try.prog 38 #[.pointer (some ⟨p, 0, none⟩), .int .i64 space, .int .u8 x] w (HPost (.int .i64 (takeE X space x)) base p O (takeX X space x) w) := by
  obtain ⟨i0, hi, hz0, hz1, hz2⟩ := info_parts u8_info
  have HA := Lib.hid (h_awaits h hk space x)
  obtain ⟨vo, vh, h, rfl⟩ := h
  have c4 := h.c4
  have hlt := h.lt
  have hhl := hk.hl
  obtain ⟨hx0, hx1⟩ := hx
  by_cases hb : awaitB X space x = false
  · have HX := Lib.hid (show takeX X space x = X by unfold takeX; rw [if_pos hb])
    have HE := Lib.hid (show takeE X space x = 10 by unfold takeE; rw [if_pos hb])
    rw [hb] at HA
    go_enter Try.func38, Try.ntmps38
    go_wp2_with (go_at_call 54; refine HA.out.mono ?_; rintro e w' ⟨rfl, rfl⟩)
    go_ret
    rw [HX.out, HE.out]
    exact h.post h (Kept.refl _ _) (fun j hj => .inl hj) _
  · have HX := Lib.hid (show takeX X space x = if (X.held ++ [x]).length < 3 then withHeld X (X.held ++ [x]) else if 200 < numTwo (X.held ++ [x]) then withHeld X (X.held ++ [x]) else if (((X.held ++ [x]).length - 3 : Nat) : Int) < numTwo (X.held ++ [x]) then withHeld X (X.held ++ [x]) else readX (noHeld X) ((X.held ++ [x]).drop 3) by unfold takeX; rw [if_neg hb])
    have HE := Lib.hid (show takeE X space x = if (X.held ++ [x]).length < 3 then 0 else if 200 < numTwo (X.held ++ [x]) then 10 else if (((X.held ++ [x]).length - 3 : Nat) : Int) < numTwo (X.held ++ [x]) then 0 else readE (noHeld X) ((X.held ++ [x]).drop 3) by unfold takeE; rw [if_neg hb])
    rw [(by simpa using hb : awaitB X space x = true)] at HA
    clear hb
    obtain ⟨N, hN⟩ : ∃ N, X.held.length = N := ⟨_, rfl⟩
    have HN := Lib.hid hN
    have HN1 := Lib.hid (show (X.held ++ [x]).length = N + 1 by rw [List.length_append, hN]; rfl)
    rw [hN] at hhl
    obtain ⟨A0, c0, rfl, _, _, _⟩ := h.held.open_n N hN
    clear hN
    rw [HN1.out] at HX HE
    by_cases hN3 : N + 1 < 3
    · rw [if_pos hN3] at HX HE
      have hN4 : (N : Int) + 1 < 3 := by omega
      go_enter Try.func38, Try.ntmps38
      go_wp2_with (first | (go_at_call 54; refine HA.out.mono ?_; rintro e w' ⟨rfl, e2⟩; rw [e2]; clear e2) | (at_builtin; refine wpList_append_at rfl (.tmp 18) (.tmp 20) 31 rfl base 5 i0 Try.underlying31 hi hz0 hz1 hz2 _ X.held rfl (h.held.alloc _) _ _ 1 1 [x] rfl (Rd.byte w 5 _ rfl x ⟨hx0, hx1⟩) (by rw [HN.out]; omega) (by simp; omega) ?_; intro v' w2 hown2 hgr2 hv2; obtain ⟨A', c', rfl, _, _, _⟩ := hown2.open_n (N + 1) HN1.out; obtain ⟨h3, P2, P3, P4, P5⟩ := h.put4 ((Below.refl _ _).alloc (Nat.le_refl _) _) hown2 hgr2 hv2; have HH3 := Lib.hid h3; have HK3 := Lib.hid P3; have HJ3 := Lib.hid P2; have c4' := h3.c4; obtain ⟨W3, hW3⟩ : ∃ W, w2.setCell ⟨p, 4, none⟩ (.slice A' (N + 1) c') = W := ⟨_, rfl⟩; rw [hW3] at HH3 HK3 c4'; clear h3 P2 P3 hgr2 hv2 hown2 c4) | fail)
      go_ret
      rw [HX.out, HE.out]
      exact h.post HH3.out HK3.out HJ3.out _
    · rw [if_neg hN3] at HX HE
      have hN4 : ¬ (N : Int) + 1 < 3 := by omega
      have hxl : 3 ≤ (X.held ++ [x]).length := by rw [HN1.out]; omega
      have HT := Lib.hid (two_of (X.held ++ [x]) hxl)
      have HTB := numTwo_bd (X.held ++ [x]) (h.held.byt.app (Byt.one ⟨hx0, hx1⟩))
      have HD := Lib.hid (show ((X.held ++ [x]).drop 3).length = N + 1 - 3 by rw [List.length_drop, HN1.out])
      clear hxl
      generalize numTwo (X.held ++ [x]) = k at *
      go_enter Try.func38, Try.ntmps38
      go_wp2_with (first | (go_at_call 54; refine HA.out.mono ?_; rintro e w' ⟨rfl, e2⟩; rw [e2]; clear e2) | (at_builtin; refine wpList_append_at rfl (.tmp 18) (.tmp 20) 31 rfl base 5 i0 Try.underlying31 hi hz0 hz1 hz2 _ X.held rfl (h.held.alloc _) _ _ 1 1 [x] rfl (Rd.byte w 5 _ rfl x ⟨hx0, hx1⟩) (by rw [HN.out]; omega) (by simp; omega) ?_; intro v' w2 hown2 hgr2 hv2; obtain ⟨A', c', rfl, _, _, _⟩ := hown2.open_n (N + 1) HN1.out; obtain ⟨h3, P2, P3, P4, P5⟩ := h.put4 ((Below.refl _ _).alloc (Nat.le_refl _) _) hown2 hgr2 hv2; have HH3 := Lib.hid h3; have HK3 := Lib.hid P3; have HJ3 := Lib.hid P2; have c4' := h3.c4; obtain ⟨W3, hW3⟩ : ∃ W, w2.setCell ⟨p, 4, none⟩ (.slice A' (N + 1) c') = W := ⟨_, rfl⟩; rw [hW3] at HH3 HK3 c4'; clear h3 P2 P3 hgr2 hv2 hown2 c4) | fail)
      obtain ⟨A9, c9, e9, r1, r2, r3⟩ := HH3.out.held.open_n (N + 1) HN1.out
      obtain ⟨rfl, _, rfl⟩ : A9 = A' ∧ N + 1 = N + 1 ∧ c9 = c' := by injection e9 with e1 e2 e3; exact ⟨e1.symm, rfl, e3.symm⟩
      have rn := HH3.out.held.nil_cap
      clear e9 hW3
      refine (of_any A9 (N + 1) c9 (X.held ++ [x]) W3 r3 (by omega) rn).mono ?_
      rintro e W4 ⟨q, rfl, hq, hr4, hb4⟩
      have hql : q < W4.heap.size := by obtain ⟨_, _, _, h, _⟩ := hr4; exact h.lt
      clear c4'
      go_wp2_with fail
      refine (byte_any q _ _ _ W4 hr4 (fun b hb => by omega)).mono ?_
      rintro e W5 ⟨rfl, hr5, hk5⟩
      have hb5 := hk5.below hb4 hb4.size (by intro j hj; omega)
      clear hr4 hb4 hk5
      go_wp2_with fail
      refine (two_any q _ _ _ W5 hr5 (fun b hb => by omega)).mono ?_
      rintro e W6 ⟨rfl, hr6, hk6⟩
      rw [HT.out.1] at hr6
      rw [HT.out.2]
      have hb6 := hk6.below hb5 hb5.size (by intro j hj; omega)
      have h6 := HH3.out.below hb6
      clear hr5 hb5 hk6
      by_cases hk2 : 200 < k
      · rw [if_pos hk2] at HX HE
        go_wp2_with fail
        go_ret
        rw [HX.out, HE.out]
        exact h.post h6 (HK3.out.trans' (Kept.of_below hb6 (fun _ => False)) (fun j hj => hj.elim)) HJ3.out _
      · rw [if_neg hk2] at HX HE
        have hsW := HK3.out.size
        go_wp2_with fail
        refine (left_any q _ _ _ W6 hr6).mono ?_
        rintro e w' ⟨rfl, e2⟩
        rw [← e2]
        clear e2
        rw [show ((((X.held ++ [x]).drop 3, false) : St).1.length) = N + 1 - 3 from HD.out]
        by_cases hk3 : ((N + 1 - 3 : Nat) : Int) < k
        · rw [if_pos hk3] at HX HE
          go_wp2_with fail
          go_ret
          rw [HX.out, HE.out]
          exact h.post h6 (HK3.out.trans' (Kept.of_below hb6 (fun _ => False)) (fun j hj => hj.elim)) HJ3.out _
        · rw [if_neg hk3] at HX HE
          have c4 := h6.c4
          have f4 := h6.fz 4
          have h7 := h6.clear4
          have hk7 : Kept (· = p) W6 (W6.setCell ⟨p, 4, none⟩ (.slice none 0 0)) := (Kept.refl _ _).setAt _ _
          have hp := hlt p (.inl rfl)
          have hr7 := hr6.kept hk7 (by omega) (fun b hb => by omega)
          have hnn : (noHeld (withHeld X (X.held ++ [x]))) = noHeld X := rfl
          rw [hnn] at h7
          obtain ⟨W7, hW7⟩ : ∃ W, W6.setCell ⟨p, 4, none⟩ (.slice none 0 0) = W := ⟨_, rfl⟩
          rw [hW7] at h7 hk7 hr7
          have hs6 := hb6.size
          have hs7 := hk7.size
          have hK7 : Kept (hO p vo (.slice A0 N c0)) w W7 := (HK3.out.trans' (Kept.of_below hb6 (fun _ => False)) (fun j hj => hj.elim)).trans (hk7.mono (fun j hj => .inl (.inl hj)))
          have HR := Lib.hid (h_read (X := noHeld X) ⟨_, _, h7, rfl⟩ hk.noHeld q W3.heap.size _ hr7 (fun j hj => by have := hlt j (hO_nil hj _); omega) (by omega) (by show ((X.held ++ [x]).drop 3).length ≤ 200; rw [HD.out]; omega) (by omega) (by omega))
          clear h6 h7 hnn hr6 hr7 hb6
          go_wp2_with fail
          refine HR.out.mono ?_
          rintro e W8 ⟨rfl, O8, h8, k8, j8⟩
          have HH8 := Lib.hid h8
          have HFK : Hid (Kept (hO p vo (.slice A0 N c0)) w W8) := Lib.hid (hK7.trans' k8 (fun j hj => hj.elim (fun e => .inl (hO_nil e _)) (fun e => .inr (by omega))))
          have HFJ := Lib.hid (show ∀ j, O8 j → hO p vo (.slice A0 N c0) j ∨ w.heap.size ≤ j from fun j hj => (j8 j hj).elim (fun e => .inl (hO_nil e _)) (fun e => .inr (by have := hK7.size; omega)))
          clear h8 k8 j8 hK7
          go_wp2_with fail
          go_ret
          rw [HX.out, HE.out]
          exact ⟨rfl, O8, HH8.out, HFK.out, HFJ.out⟩
end
end
section
set_option linter.unusedVariables false
set_option linter.unusedSimpArgs false
open Go.RowKit Go.ChangeShapes Go.WideShapes Go.Deep
section
variable {w w' w1 w2 : World} {base p : Nat} {vo vh vh' : Value} {O : Nat → Prop} {X X' : HS}
/-- A side on the way of Feed. -/
def FdS (w : World) (base p : Nat) (O : Nat → Prop) (X : HS) (wr : World) : Prop := ∃ O', Hm wr base p O' X ∧ Kept O w wr ∧ ∀ j, O' j → O j ∨ w.heap.size ≤ j
theorem Hm.c18 (h : Hm w base p O X) : w.cell? ⟨p, 18, none⟩ = some (.int .i64 X.code) := by obtain ⟨_, _, h, _⟩ := h; exact h.c18
theorem Hm.fz (h : Hm w base p O X) (j : Nat) : w.frozen? ⟨p, j, none⟩ = false := by obtain ⟨_, _, h, _⟩ := h; exact h.fz j
theorem Hm.own (h : Hm w base p O X) : O p := by obtain ⟨_, _, h, rfl⟩ := h; exact .inl rfl
/-- The code is stored. -/
theorem FdS.code (h : FdS w base p O X w1) (c : Int) : FdS w base p O (coded X c) (w1.setCell ⟨p, 18, none⟩ (.int .i64 c)) := by
  obtain ⟨O', ⟨vo, vh, h, rfl⟩, k, hj⟩ := h
  refine ⟨_, ⟨vo, vh, h.set (X' := coded X c) 18 (.int .i64 c) rfl rfl rfl, rfl⟩, k.setCell ?_ _, hj⟩
  exact (hj p (.inl rfl))
theorem FdS.clear (h : FdS w base p O X w1) : FdS w base p O (noHeld X) (w1.setCell ⟨p, 4, none⟩ (.slice none 0 0)) := by
  obtain ⟨O', ⟨vo, vh, h, rfl⟩, k, hj⟩ := h
  exact ⟨_, ⟨vo, _, h.clear4, rfl⟩, k.setCell (hj p (.inl rfl)) _, fun j e => hj j (hO_nil e _)⟩
theorem FdS.step {r : Value} {e : Ending} {O1 : Nat → Prop} (k : Kept O w w1) (hj : ∀ j, O1 j → O j ∨ w.heap.size ≤ j) (hP : HPost r base p O1 X' w1 e w2) : e = .returned r ∧ FdS w base p O X' w2 := by
  obtain ⟨he, O2, h2, k2, j2⟩ := hP
  refine ⟨he, O2, h2, k.trans' k2 hj, fun j e => ?_⟩
  rcases j2 j e with e' | e'
  · exact hj j e'
  · exact .inr (Nat.le_trans k.size e')
set_option maxRecDepth 100000 in
set_option maxHeartbeats 4000000 in
theorem h_feed (h : Hm w base p O X) (hk : X.ok) (space : Int) (A : Option Addr) (n c : Nat) (bs : List Int) (hr : RdP w (fun b => ¬ O b) A n bs) (hn : n ≤ 140737488355000) (hbase : base ≤ w.heap.size) :
    Calls Try.prog 20 #[.pointer (some ⟨p, 0, none⟩), .int .i64 space, .slice A n c] w (HPost (.int .i64 (feedX X space bs).code) base p O (feedX X space bs) w) := by
  have HL := Lib.hid hr.1.1
  have HR := Lib.hid hr
  have HB := Lib.hid hr.byt
  have h0 : Hid (FdS w base p O (feedX X space (bs.take 0)) w) := Lib.hid ⟨O, by rw [List.take_zero]; exact h, Kept.refl _ _, fun j hj => .inl hj⟩
  have HO := Lib.hid (fun k => feedX_ok hk space (bs.take k))
  have HFULL := Lib.hid (show feedX X space (bs.take n) = feedX X space bs by rw [List.take_of_length_le (by rw [hr.1.1]; exact Nat.le_refl _)])
  have HSTEP := Lib.hid (show ∀ k, k < n → feedX X space (bs.take (k + 1)) = feed1 space (feedX X space (bs.take k)) (bs.getD k 0) from fun k hk => by
    rw [← feedX_snoc]
    have : k < bs.length := by rw [hr.1.1]; exact hk
    rw [List.take_succ_eq_append_getElem this]
    simp [List.getD, this])
  have HSTOP := Lib.hid (show ∀ k, (feedX X space (bs.take k)).code ≠ 0 → feedX X space bs = feedX X space (bs.take k) from fun k h => by
    have e : feedX X space bs = feedX (feedX X space (bs.take k)) space (bs.drop k) := by rw [← feedX_app, List.take_append_drop]
    rw [e, feedX_closed h])
  have HFIN := Lib.hid (fun (wr : World) (X1 : HS) (h : FdS w base p O X1 wr) => (show HPost (.int .i64 X1.code) base p O X1 w (.returned (.int .i64 X1.code)) wr from by
    obtain ⟨O', h1, h2, h3⟩ := h
    exact ⟨rfl, O', h1, h2, h3⟩))
  clear hr h hk
  go_enter Try.func20, Try.ntmps20
  go_wp2
  go_loopw [11] (fun i wr => ∃ k : Nat, k ≤ n ∧ i = .int .i64 k ∧ Hid (FdS w base p O (feedX X space (bs.take k)) wr)) (fun i _ => n - (intOf i).toNat)
  case atStart => exact ⟨0, by omega, rfl, h0⟩
  case round =>
    clear h0
    obtain ⟨k, hk, rfl, hst⟩ := hrel
    by_cases hlt : k < n
    · have hki : (k : Int) < (n : Int) := by omega
      have hk0 : (0 : Int) ≤ (k : Int) := by omega
      have ST := HSTEP.out k hlt
      have SP := HSTOP.out k
      have OK := HO.out k
      obtain ⟨O1, h1, k1, j1⟩ := hst.out
      have rd1 := HR.out.kept k1 (fun b hb => hb)
      obtain ⟨b, off, eA, hb, hc⟩ := rd1.1.2.2 (by omega)
      subst eA
      have hx := hc k hlt
      have hxb := HB.out.getD k
      have hsz := k1.size
      have HT := Lib.hid (h_take h1 OK space (bs.getD k 0) hxb (Nat.le_trans hbase hsz))
      have HSV := Lib.hid (show ∀ e w2 r X', HPost r base p O1 X' wr e w2 → e = .returned r ∧ FdS w base p O X' w2 from fun e w2 r X' hP => FdS.step k1 j1 hP)
      have c18 := h1.c18
      have HF0 := Lib.hid (HFIN.out wr _ hst.out)
      clear rd1 hc h1 k1 j1 hst hb
      generalize bs.getD k 0 = x at *
      generalize feedX X space (bs.take k) = Xk at *
      by_cases hcd : Xk.code = 0
      · have ST2 : feed1 space Xk x = if takeE Xk space x = 0 then coded (takeX Xk space x) 0 else noHeld (coded (takeX Xk space x) (takeE Xk space x)) := by unfold feed1; rw [if_neg (by rw [hcd]; simp)]
        rw [ST2] at ST
        clear ST2 SP HF0
        rw [hcd] at c18
        have HSTT := Lib.hid ST
        clear ST hcd
        go_wp2_with fail
        refine HT.out.mono ?_
        intro e w2 hP
        obtain ⟨rfl, hF⟩ := HSV.out _ _ _ _ hP
        have HF2 := hF.code (takeE Xk space x)
        have c18b : w2.cell? ⟨p, 18, none⟩ = some (.int .i64 (takeX Xk space x).code) := by obtain ⟨_, h, _⟩ := hF; exact h.c18
        have f18b : w2.frozen? ⟨p, 18, none⟩ = false := by obtain ⟨_, h, _⟩ := hF; exact h.fz 18
        have f4b : (w2.setCell ⟨p, 18, none⟩ (.int .i64 (takeE Xk space x))).frozen? ⟨p, 4, none⟩ = false := by obtain ⟨_, h, _⟩ := HF2; exact h.fz 4
        have c4b : ∃ A4 n4 c4, (w2.setCell ⟨p, 18, none⟩ (.int .i64 (takeE Xk space x))).cell? ⟨p, 4, none⟩ = some (.slice A4 n4 c4) := by
          obtain ⟨_, ⟨vo, vh, h, _⟩, _⟩ := HF2
          obtain ⟨A4, n4, c4, e⟩ := h.held.shape
          exact ⟨A4, n4, c4, by rw [h.c4, e]⟩
        obtain ⟨A4, n4, c4, c4b⟩ := c4b
        have HFH := Lib.hid HF2
        clear HF2 hP hF HT HSV c18
        by_cases he : takeE Xk space x = 0
        · rw [if_pos he] at HSTT
          rw [he] at HFH c4b f4b ⊢
          clear he
          go_wp2_with fail
          go_roundw
          case rel => exact ⟨k + 1, by omega, by go_num, Lib.hid (by rw [HSTT.out]; exact HFH.out)⟩
          case measure => simp [intOf]; omega
        · rw [if_neg he] at HSTT
          have HFC := Lib.hid HFH.out.clear
          have en : (takeE Xk space x != 0) = true := by simpa using he
          generalize takeE Xk space x = E at *
          go_wp2_with fail
          go_roundw
          case rel => exact ⟨k + 1, by omega, by go_num, Lib.hid (by rw [HSTT.out]; exact HFC.out)⟩
          case measure => simp [intOf]; omega
      · have en : (Xk.code != 0) = true := by simpa using hcd
        have SPT := Lib.hid (SP hcd)
        clear SP ST hcd HT HSV
        go_wp2_with fail
        go_ret
        rw [SPT.out]
        exact HF0.out
    · obtain rfl : k = n := by omega
      have HF0 := Lib.hid (HFIN.out wr _ hst.out)
      obtain ⟨O1, h1, k1, j1⟩ := hst.out
      have c18 := h1.c18
      rw [HFULL.out] at HF0 c18
      clear h1 k1 j1 hst
      go_wp2_with fail
      go_ret
      exact HF0.out
end
end
end Go.Proofs.Ytdakbedohjemeaa
