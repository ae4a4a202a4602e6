/-
  slices.Equal of bytes; hello.Side: check, read.
-/
import Derived.Test.YtdakbedohjemeaaYk
namespace Go.Proofs.Ytdakbedohjemeaa
set_option linter.unusedVariables false
set_option linter.unusedSimpArgs false
open Go.RowKit Go.ChangeShapes Go.WideShapes Go.Deep
theorem bs_drop_eq (rs rs' : List Int) (k : Nat) (hk : k < rs.length) (hk' : k < rs'.length) : decide (rs.drop k = rs'.drop k) = (decide (rs.getD k 0 = rs'.getD k 0) && decide (rs.drop (k + 1) = rs'.drop (k + 1))) := by
  have e : rs.getD k 0 = rs[k] := by simp [List.getD, hk]
  have e' : rs'.getD k 0 = rs'[k] := by simp [List.getD, hk']
  rw [List.drop_eq_getElem_cons hk, List.drop_eq_getElem_cons hk', e, e']
  simp only [List.cons.injEq, Bool.decide_and]
set_option maxRecDepth 100000 in
set_option maxHeartbeats 2000000 in
theorem bequal_any (B B' : Nat) (A A' : Option Addr) (n n' c c' : Nat) (bs bs' : List Int) (w : World) (h : Rd w B A n bs) (h' : Rd w B' A' n' bs') (hB : B ≤ w.heap.size) (hB' : B' ≤ w.heap.size) (hc : n ≤ 140737488355000) :
    Calls Try.prog 85 #[.slice A n c, .slice A' n' c'] w fun e w' => e = .returned (.bool (decide (bs = bs'))) ∧ Below w.heap.size w w' := by
  obtain ⟨hlen, _, hcell⟩ := h
  obtain ⟨hlen', _, hcell'⟩ := h'
  have HL := Lib.hid hlen
  have HL' := Lib.hid hlen'
  have HC := Lib.hid hcell
  have HC' := Lib.hid hcell'
  clear hlen hlen' hcell hcell'
  obtain ⟨V, hV⟩ : ∃ b, decide (bs = bs') = b := ⟨_, rfl⟩
  have HV := Lib.hid hV
  rw [hV]
  clear hV
  by_cases e_n : n = n'
  · subst e_n
    go_enter Try.func85, Try.ntmps85
    go_wp2
    go_loopw [13] (fun i wr => ∃ k : Nat, k ≤ n ∧ i = .int .i64 k ∧ Hid (Below w.heap.size w wr) ∧ Hid (V = decide (bs.drop k = bs'.drop k))) (fun i _ => n - (intOf i).toNat)
    case atStart => exact ⟨0, by omega, rfl, Lib.hid (Below.refl _ _), Lib.hid (by rw [← HV.out]; simp)⟩
    case round =>
      obtain ⟨k, hk, rfl, hbr, hst⟩ := hrel
      by_cases hlt : k < n
      · obtain ⟨b, off, eA, hb, hc1⟩ := HC.out (by omega)
        obtain ⟨b', off', eA', hb', hc1'⟩ := HC'.out (by omega)
        subst eA
        subst eA'
        have HS : Hid (V = (decide (bs.getD k 0 = bs'.getD k 0) && decide (bs.drop (k + 1) = bs'.drop (k + 1)))) := Lib.hid (hst.out.trans (bs_drop_eq bs bs' k (by rw [HL.out]; exact hlt) (by rw [HL'.out]; exact hlt)))
        have ga : wr.cell? ⟨b, off + k, none⟩ = some (.int .u8 (bs.getD k 0)) := (hbr.out.cell (p := ⟨b, _, none⟩) (Nat.lt_of_lt_of_le hb hB)).trans (hc1 k hlt)
        have ga' : wr.cell? ⟨b', off' + k, none⟩ = some (.int .u8 (bs'.getD k 0)) := (hbr.out.cell (p := ⟨b', _, none⟩) (Nat.lt_of_lt_of_le hb' hB')).trans (hc1' k hlt)
        have hki : (k : Int) < (n : Int) := by omega
        have hk0 : (0 : Int) ≤ (k : Int) := by omega
        clear hst hc1 hc1' HC HC'
        generalize bs.getD k 0 = x at *
        generalize bs'.getD k 0 = x' at *
        by_cases e1 : x = x'
        · subst e1
          go_wp2_with fail
          go_region
          go_wp2_with fail
          go_roundw
          case rel => exact ⟨k + 1, by omega, by go_num, Lib.hid (belowN hbr.out _), Lib.hid (by rw [HS.out]; simp)⟩
          case measure => simp [intOf]; omega
        · have n1 : (x == x') = false := by simpa using e1
          have HT : Hid (V = false) := Lib.hid (by rw [HS.out]; simp [e1])
          go_wp2_with fail
          go_region
          go_wp2_with fail
          go_ret
          exact ⟨by rw [HT.out]; rfl, belowN hbr.out _⟩
      · obtain rfl : k = n := by omega
        have HT : Hid (V = true) := Lib.hid (by rw [hst.out, List.drop_eq_nil_of_le (by rw [HL.out]; exact Nat.le_refl _), List.drop_eq_nil_of_le (by rw [HL'.out]; exact Nat.le_refl _)]; simp)
        clear hst hlt
        go_wp2_with fail
        go_ret
        exact ⟨by rw [HT.out]; rfl, hbr.out⟩
  · have HT : Hid (V = false) := Lib.hid (by
      rw [← HV.out]
      simp only [decide_eq_false_iff_not]
      intro e
      exact e_n (by rw [← HL.out, ← HL'.out, e]))
    have en2 : ((n : Int) == (n' : Int)) = false := by simp; omega
    have en3 : ((n : Int) != (n' : Int)) = true := by simp; omega
    go_enter Try.func85, Try.ntmps85
    go_wp2
    go_ret
    exact ⟨by rw [HT.out]; rfl, Below.refl _ _⟩
section
variable {w w' : World} {base p : Nat} {vo vh : Value} {O : Nat → Prop} {X X' : HS}
set_option maxRecDepth 100000 in
set_option maxHeartbeats 2000000 in
theorem h_check (h : Hm w base p O X) (hk : X.ok) (A : Option Addr) (n c : Nat) (bs : List Int) (hr : Rd w w.heap.size A n bs) (hn : n ≤ 200) (hbase : base ≤ w.heap.size) :
    Calls Try.prog 75 #[.pointer (some ⟨p, 0, none⟩), .slice A n c] w (HPost (.int .i64 (checkE X bs)) base p O (checkX X bs) w) := by
  have HP := Lib.hid (h_proof h hk (!X.az))
  have hpb := proofS_byt X.sh (!X.az)
  obtain ⟨vo, vh, h, rfl⟩ := h
  have c0 := h.c0
  have hlt := h.lt
  have HX : Hid (checkX X bs = if bs = (proofS X.sh (!X.az)).l then { X with st := 2 } else X) := Lib.hid rfl
  have HE : Hid (checkE X bs = if bs = (proofS X.sh (!X.az)).l then 0 else 40) := Lib.hid rfl
  generalize proofS X.sh (!X.az) = pr at *
  go_enter Try.func75, Try.ntmps75
  go_wp2_with (first | (go_at_call 36; refine HP.out.mono ?_; rintro e w1 ⟨rfl, hb1⟩; have hA1 := z8_at w1; have hb2 := hb1.alloc hb1.size (.cells #[.int .u8 0, .int .u8 0, .int .u8 0, .int .u8 0, .int .u8 0, .int .u8 0, .int .u8 0, .int .u8 0] 23); clear c0) | ((with_reducible refine at_st8 (x := .tmp 5) ?_); refine st_8 _ 23 (N8.zero.l.map (Value.int .u8)) pr (by rfl) (by rfl) hA1 rfl ?_; intro w3 hA3 hk3; have hb3 := hk3.below hb2 hb2.size (by intro j hj; have := hb1.size; omega)))
  refine (bequal_any w3.heap.size w3.heap.size A _ n 8 c 8 bs pr.l w3 ((hr.below hb3).more hb3.size) (At.rd8h hA3 hpb) (Nat.le_refl _) (Nat.le_refl _) (by omega)).mono ?_
  rintro e w4 ⟨rfl, hb4⟩
  have hb5 := hb3.trans (hb4.mono hb3.size)
  have h5 := h.below hb5
  clear hA1 hb1 hb2 hA3 hk3 hb3 hb4
  by_cases he : bs = pr.l
  · rw [if_pos he] at HX HE
    rw [decide_eq_true he]
    have c3 := h5.c3
    have f3 := h5.fz 3
    clear he
    go_wp2_with fail
    go_ret
    rw [HX.out, HE.out]
    exact h.post (h5.set (X' := { X with st := 2 }) 3 (.int .i64 2) rfl rfl rfl) ((Kept.of_below hb5 _).trans (((Kept.refl (· = p) w4).setAt 3 _).mono (fun j hj => .inl (.inl hj)))) (fun j hj => .inl hj) _
  · rw [if_neg he] at HX HE
    rw [decide_eq_false he]
    clear he
    go_wp2_with fail
    go_ret
    rw [HX.out, HE.out]
    exact h.post h5 (Kept.of_below hb5 _) (fun j hj => .inl hj) _
/-- The message that is awaited is read. -/
theorem h_meet (h : Hm w base p O X) (hk : X.ok) (A : Option Addr) (n c : Nat) (bs : List Int) (hr : Rd w w.heap.size A n bs) (hn : n ≤ 200) (hnc : n ≤ c) (hc : c ≤ maxLen) (hA : A = none → c = 0) (hbase : base ≤ w.heap.size) :
    Calls Try.prog 73 #[.pointer (some ⟨p, 0, none⟩), .slice A n c] w (HPost (.int .i64 (meetE bs)) base p O (meetX X bs) w) := by
  cases haz : X.az
  · exact h_meet_answer h hk haz A n c bs hr hn hnc hc hA hbase
  · exact h_meet_ask h hk haz A n c bs hr hn hnc hc hA hbase
set_option maxRecDepth 100000 in
set_option maxHeartbeats 2000000 in
theorem h_read (h : Hm w base p O X) (hk : X.ok) (q : Nat) (B : Nat) (s : St) (hr : Rdr w q 108 (fun b => B ≤ b ∧ b < q) s) (hq : ∀ j, O j → j < B) (hBq : B ≤ q) (hs : s.1.length ≤ 200) (hB : B ≤ w.heap.size) (hbase : base ≤ B) :
    Calls Try.prog 59 #[.pointer (some ⟨p, 0, none⟩), .pointer (some ⟨q, 0, none⟩)] w fun e w' => e = .returned (.int .i64 (readE X s.1)) ∧ ∃ O', Hm w' base p O' (readX X s.1) ∧ Kept (fun j => O j ∨ B ≤ j) w w' ∧ ∀ j, O' j → O j ∨ w.heap.size ≤ j := by
  have hst := hk.st
  have h0 := h
  have HR := Lib.hid hr
  have HX : Hid (readX X s.1 = if X.st = 0 then meetX X s.1 else checkX X s.1) := Lib.hid rfl
  have HE : Hid (readE X s.1 = if X.st = 0 then meetE s.1 else checkE X s.1) := Lib.hid rfl
  have HF := Lib.hid (fun (W2 W3 : World) (e : Ending) (r : Value) (X' : HS) (k : Kept (· = q) w W2) (hP : HPost r base p O X' W2 e W3) => (show e = .returned r ∧ ∃ O', Hm W3 base p O' X' ∧ Kept (fun j => O j ∨ B ≤ j) w W3 ∧ ∀ j, O' j → O j ∨ w.heap.size ≤ j from by
    obtain ⟨he, O', h1, h2, h3⟩ := hP
    have := k.size
    refine ⟨he, O', h1, (k.mono fun j hj => .inl (.inr (by omega))).trans (h2.mono fun j hj => .inl (.inl hj)), fun j hj => (h3 j hj).imp id fun h => by omega⟩))
  obtain ⟨vo, vh, h, rfl⟩ := h
  have c3 := h.c3
  have hlt := h.lt
  by_cases hz : X.st = 0
  · rw [if_pos hz] at HX HE
    rw [hz] at c3
    clear hr h
    go_enter Try.func59, Try.ntmps59
    go_wp2_with fail
    refine (left_any q _ _ s w HR.out).mono ?_
    rintro e w' ⟨rfl, rfl⟩
    go_wp2_with fail
    refine (raw_any q _ _ s _ w HR.out (fun b hb => by omega) (by omega)).mono ?_
    rintro e w2 ⟨v2, rfl, ho2, _, hk2⟩
    rw [takeR_all] at ho2
    obtain ⟨m, hm⟩ : ∃ m, s.1.length = m := ⟨_, rfl⟩
    obtain ⟨A2, c2, rfl, t1, t2, t3⟩ := ho2.open_n m hm
    have ha2 := ho2.nil_cap
    have hs2 := hk2.size
    have h2 := h0.kept hk2 (fun j hj e => by have := hq j hj; omega)
    clear ho2 c3 hst
    go_wp2_with fail
    refine (h_meet h2 hk A2 m c2 s.1 t3 (by omega) t1 t2 ha2 (by omega)).mono ?_
    intro e w3 hP
    have hP2 := HF.out _ _ _ _ _ hk2 hP
    obtain ⟨rfl, hP3⟩ := hP2
    have HP3 := Lib.hid hP3
    clear hP hP3
    go_wp2_with fail
    go_ret
    rw [HX.out, HE.out]
    exact ⟨rfl, HP3.out⟩
  · rw [if_neg hz] at HX HE
    have e0 : (X.st == 0) = false := by simp [hz]
    clear hr h
    go_enter Try.func59, Try.ntmps59
    go_wp2_with fail
    refine (left_any q _ _ s w HR.out).mono ?_
    rintro e w' ⟨rfl, rfl⟩
    go_wp2_with fail
    refine (raw_any q _ _ s _ w HR.out (fun b hb => by omega) (by omega)).mono ?_
    rintro e w2 ⟨v2, rfl, ho2, _, hk2⟩
    rw [takeR_all] at ho2
    obtain ⟨m, hm⟩ : ∃ m, s.1.length = m := ⟨_, rfl⟩
    obtain ⟨A2, c2, rfl, t1, t2, t3⟩ := ho2.open_n m hm
    have hs2 := hk2.size
    have h2 := h0.kept hk2 (fun j hj e => by have := hq j hj; omega)
    clear ho2 c3 hst e0
    go_wp2_with fail
    refine (h_check h2 hk A2 m c2 s.1 t3 (by omega) (by omega)).mono ?_
    intro e w3 hP
    have hP2 := HF.out _ _ _ _ _ hk2 hP
    obtain ⟨rfl, hP3⟩ := hP2
    have HP3 := Lib.hid hP3
    clear hP hP3
    go_wp2_with fail
    go_ret
    rw [HX.out, HE.out]
    exact ⟨rfl, HP3.out⟩
end
end Go.Proofs.Ytdakbedohjemeaa
