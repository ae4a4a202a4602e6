/-
  streams.Set: tell.
-/
import Derived.Test.YtndaikeeikimeaaTx
import Derived.StillTailTactics
import Derived.Test.YtndaikeeikimeaaMq23
import Derived.Test.YtndaikeeikimeaaTt
namespace Go.Proofs.Ytndaikeeikimeaa
section
set_option linter.unusedVariables false
set_option linter.unusedSimpArgs false
open Go.RowKit
/-- A sender's Reset: the error's number; what it is then. -/
def rstE (X : SS) (code : Nat) : Int := if 4 ≤ X.st then 24 else if 4611686018427387903 < code then 1 else 0
def rstX (X : SS) (code : Nat) : SS := if 4 ≤ X.st then X else if 4611686018427387903 < code then X else { X with st := 5, cl := true, code := code, due := true }
def tlE (T : TS) (lim got : Nat) (m : FN) (n : Nat) : Int := if m.k = 8 then tkE T lim got (m.o.toNat + n) m n else if m.k = 4 then tkE T lim got m.f.toNat m n else 0
def tlX (T : TS) (lim got : Nat) (m : FN) (bs : List Int) : TS := if m.k = 8 then tkX T lim got (m.o.toNat + bs.length) m bs else if m.k = 4 then tkX T lim got m.f.toNat m bs else if m.k = 5 then { T with o := rstX T.o m.c.toNat } else if m.k = 17 then { T with o := { T.o with lim := max T.o.lim m.l.toNat } } else T
section
variable {w0 W W' wr : World} {s x q p : Nat} {v0 v1 va vc : Value} {E0 E1 : List En} {X : XS} {T : TS} {Oq Op O : Nat → Prop} {Z : SS}
theorem Sx.same (h : Sx w0 W q O Z) (k : Below W.heap.size W W') (r : Value) : SxPost r w0 q O Z W (.returned r) W' := ⟨rfl, O, h.below k, Kept.of_below k O, fun j hj => .inl hj⟩
theorem sx_reset (h : Sx w0 W q O Z) (code : Nat) : Calls Try.prog 35 #[.pointer (some ⟨q, 0, none⟩), .int .u64 code] W (SxPost (.int .i64 (rstE Z code)) w0 q O (rstX Z code) W) := by
  unfold rstE rstX
  by_cases h4 : 4 ≤ Z.st
  · rw [if_pos h4, if_pos h4]
    obtain ⟨p, h1, _⟩ := id h
    exact (sm_reset_no h1 h4 code).mono fun e w' ⟨he, hw⟩ => by rw [he, hw]; exact h.same (Below.refl _ _) _
  · rw [if_neg h4, if_neg h4]
    by_cases hc : 4611686018427387903 < code
    · rw [if_pos hc, if_pos hc]
      obtain ⟨p, h1, _⟩ := id h
      exact (sm_reset_arg h1 (by omega) code hc).mono fun e w' ⟨he, hw⟩ => by rw [he, hw]; exact h.same (Below.refl _ _) _
    · rw [if_neg hc, if_neg hc]
      exact sx_call h fun p h1 => sm_reset h1 (by omega) code (by omega)
theorem Sq.sendPost {r : Value} {e : Ending} {X' : SS} (h : Sq w0 W x q p Oq Op va vc T) (hP : SxPost r w0 q Oq X' W e W') : e = .returned r ∧ StPost w0 x (sqO x Oq Op va vc) { T with o := X' } W W' := by
  obtain ⟨he, O', h1, k1, j1⟩ := hP
  refine ⟨he, h.post (h.sender h1 k1 j1) (k1.mono fun j hj => .inl (.inr (.inl hj))) fun j hj => ?_⟩
  rcases hj with e | e | e | e | e
  · exact .inl (.inl e)
  · exact (j1 j e).imp (fun e => .inr (.inl e)) id
  · exact .inl (.inr (.inr (.inl e)))
  · exact .inl (.inr (.inr (.inr (.inl e))))
  · exact .inl (.inr (.inr (.inr (.inr e))))
theorem StPost.below {T' : TS} {W1 : World} (k : Below W.heap.size W W1) (h : StPost w0 x O T' W1 W') : StPost w0 x O T' W W' := StPost.trans (T1 := T') (Kept.of_below k O) (fun j hj => .inl hj) h
set_option maxRecDepth 100000 in
set_option maxHeartbeats 16000000 in
theorem tell_any (hT : Tt w0 W s v0 v1 E0 E1 X) (h0 : E0.length ≤ 100000) (h1 : E1.length ≤ 100000) (hx : Sq w0 W x q p Oq Op va vc T) (m : FN) (d r : Sl) (bs : List Int) (hm : m.wf) (hd : RdP W (fun b => ¬ sqO x Oq Op va vc b) d.A d.n bs) (hdc : d.n ≤ d.c) (hdn : d.n < 9223372036854775808)
    (hlim : X.limit < 18446744073709551616) (hcb : T.cb ≤ 1099511640000) (hcz : T.cz.length ≤ 100000) (hon : m.k = 8 → m.o.toNat + bs.length < 18446744073709551616) (hadd : onE T.r m bs.length = 0 → m.k = 8 → m.o.toNat + bs.length ≤ T.cb + 100000) (htk : onE T.r m bs.length = 0 → T.cb ≤ takenQ (onX T.r m bs) ∧ takenQ (onX T.r m bs) < 18446744073709551616) :
    Calls Try.prog 29 #[.pointer (some ⟨s, 0, none⟩), .pointer (some ⟨x, 0, none⟩), frV m d r] W fun e w' => e = .returned (.int .i64 (tlE T X.limit (gotS (rise E0 E1)) m bs.length)) ∧ StPost w0 x (sqO x Oq Op va vc) (tlX T X.limit (gotS (rise E0 E1)) m bs) W w' := by
  obtain ⟨L, W1, hfv, hL, hW1, hB, hlt, hA, d0, d1, d2, d3, d4, d5, d6, d7⟩ := fr_box8 W m d r
  have hT1 := hT.below hB
  have hx1 := hx.below hB
  have hLl : L.length = 19 := by rw [hL]; rfl
  have HLl := Lib.hid hLl
  have c1 := hx1.c1
  have hd1 := hd.kept (Kept.of_below hB (fun _ => False)) fun _ _ h => h
  have HBL := Lib.hid (show bs.length = d.n from hd.len)
  have o0 := hm.o0
  have o1 := hm.o1
  have f0 := hm.f0
  have f1 := hm.f1
  have k0 := hm.c0
  have k1 := hm.c1
  have z0 := hm.l0
  have z1 := hm.l1
  generalize hgot : gotS (rise E0 E1) = got at *
  have HTK := Lib.hid (fun en (hen : en < 18446744073709551616) (ha : onE T.r m bs.length = 0 → m.k = 8 → en ≤ T.cb + 100000) => take18_any hT1 h0 h1 hx1 m d r bs hm hd1 hdc hdn en hen hlim hcb hcz ha htk)
  rw [hgot] at HTK
  have HPB := Lib.hid (fun T' w' (h : StPost w0 x (sqO x Oq Op va vc) T' W1 w') => StPost.below hB h)
  have HRS := Lib.hid (fun j => sx_reset (hx1.drewN j).so m.c.toNat)
  have HLM := Lib.hid (fun j (hn : m.l.toNat < 18446744073709551616) => sx_call (hx1.drewN j).so fun p h1 => sm_limit h1 m.l.toNat hn)
  have HSP := Lib.hid (fun j r e X' w' (hP : SxPost r w0 q Oq X' (W1.drewN j) e w') => (fun (h : e = .returned r ∧ StPost w0 x (sqO x Oq Op va vc) { T with o := X' } (W1.drewN j) w') => (⟨h.1, StPost.below (hB.trans ((belowN (Below.refl _ _) j).mono hB.size)) h.2⟩ : e = .returned r ∧ StPost w0 x (sqO x Oq Op va vc) { T with o := X' } W w')) ((hx1.drewN j).sendPost hP))
  have HSAME : Hid (StPost w0 x (sqO x Oq Op va vc) T W W1) := Lib.hid (hx.post hx1 (Kept.of_below hB _) fun j hj => .inl hj)
  obtain ⟨g, hg⟩ : ∃ g, W.heap.size = g := ⟨_, rfl⟩
  have hA2 : At W1 g 34 L := by rw [← hg]; exact hA
  rw [hg] at d0 d1 d2 d3 d4 d5 d6 d7
  have HE : Hid (tlE T X.limit got m bs.length = if m.k = 8 then tkE T X.limit got (m.o.toNat + bs.length) m bs.length else if m.k = 4 then tkE T X.limit got m.f.toNat m bs.length else 0) := Lib.hid rfl
  have HX : Hid (tlX T X.limit got m bs = if m.k = 8 then tkX T X.limit got (m.o.toNat + bs.length) m bs else if m.k = 4 then tkX T X.limit got m.f.toNat m bs else if m.k = 5 then { T with o := rstX T.o m.c.toNat } else if m.k = 17 then { T with o := { T.o with lim := max T.o.lim m.l.toNat } } else T) := Lib.hid rfl
  rw [hfv] at HTK ⊢
  obtain ⟨kk, hkk⟩ : ∃ k, m.k = k := ⟨_, rfl⟩
  rw [hkk] at d0 HE HX
  clear hT hx hT1 hx1 hL hLl hfv hA hd hd1
  by_cases h8 : kk = 8
  · rw [if_pos h8] at HE HX
    rw [h8] at d0
    obtain ⟨mo, hmo⟩ : ∃ n, m.o.toNat = n := ⟨_, rfl⟩
    have e1 : (m.o : Int) = (mo : Int) := by omega
    have HT2 := HTK.out (mo + bs.length) (by rw [← hmo]; exact hon (hkk.trans h8)) (fun a b => by rw [← hmo]; exact hadd a b)
    rw [hmo] at HE HX
    have hwr : IntKind.u64.wrap ((mo : Int) + (d.n : Int)) = ((mo + bs.length : Nat) : Int) := by have := hon (hkk.trans h8); have := HBL.out; rw [IntKind.wrap_u64]; omega
    have hwn : IntKind.u64.wrap (d.n : Int) = (d.n : Int) := by rw [IntKind.wrap_u64]; omega
    rw [e1] at d2
    obtain ⟨en, hen⟩ : ∃ n, mo + bs.length = n := ⟨_, rfl⟩
    rw [hen] at HT2 HE HX hwr
    have HT3 := Lib.hid HT2
    clear HTK HT2 hmo e1 hen hon hadd htk hkk HRS HLM
    go_enter Try.func29, Try.ntmps29
    go_wp2_with (first | ((with_reducible refine at_ld ?_); refine ld_fr g L (by rfl) hA2 HLl.out ?_) | (go_at_call 34; (with_reducible refine HT3.out.mono ?_); rintro e w2 ⟨rfl, h2⟩; have H2 := Lib.hid h2; clear h2) | fail)
    go_ret
    rw [HE.out, HX.out]
    exact ⟨rfl, HPB.out _ _ H2.out⟩
  · have n8 : (kk == 8) = false := by simp [h8]
    rw [if_neg h8] at HE HX
    by_cases h4 : kk = 4
    · rw [if_pos h4] at HE HX
      rw [h4] at d0
      obtain ⟨mf, hmf⟩ : ∃ n, m.f.toNat = n := ⟨_, rfl⟩
      have e1 : (m.f : Int) = (mf : Int) := by omega
      have HT2 := HTK.out mf (by omega) (fun _ b => by omega)
      rw [hmf] at HE HX
      rw [e1] at d7
      have HT3 := Lib.hid HT2
      clear HTK HT2 hmf e1 hon hadd htk hkk HRS HLM
      go_enter Try.func29, Try.ntmps29
      go_wp2_with (first | ((with_reducible refine at_ld ?_); refine ld_fr g L (by rfl) hA2 HLl.out ?_) | (go_at_call 34; (with_reducible refine HT3.out.mono ?_); rintro e w2 ⟨rfl, h2⟩; have H2 := Lib.hid h2; clear h2) | fail)
      go_ret
      rw [HE.out, HX.out]
      exact ⟨rfl, HPB.out _ _ H2.out⟩
    · have n4 : (kk == 4) = false := by simp [h4]
      rw [if_neg h4] at HE HX
      by_cases h5 : kk = 5
      · rw [if_pos h5] at HX
        rw [h5] at d0
        obtain ⟨mc, hmc⟩ : ∃ n, m.c.toNat = n := ⟨_, rfl⟩
        have e1 : (m.c : Int) = (mc : Int) := by omega
        rw [hmc] at HX HRS
        rw [e1] at d6
        have HRS2 := HRS.out 1
        have HSP1 := fun r e X' w' => HSP.out 1 r e X' w'
        rw [show W1.drewN 1 = W1.drew from rfl] at HRS2 HSP1
        clear HTK hmc e1 hon hadd htk hkk HRS HLM HSP
        go_enter Try.func29, Try.ntmps29
        go_wp2_with fail

        go_still_tail 6, (by kernel_rfl)
        change wpList _ _ _ _ _ (World.drew W1)
        generalize World.drew W1 = Y at HRS2 HSP1 ⊢
        have HRS2 := Lib.hid HRS2
        have HSP1 := Lib.hid HSP1
        go_wp2_with (first | (go_at_call 35; (with_reducible refine HRS2.out.mono ?_); intro e w6 hP; obtain ⟨rfl, h2⟩ := HSP1.out _ _ _ _ hP; have H2 := Lib.hid h2; clear hP h2) | fail)
        go_ret
        rw [HE.out, HX.out]
        exact ⟨rfl, H2.out⟩
      · have n5 : (kk == 5) = false := by simp [h5]
        rw [if_neg h5] at HX
        by_cases h17 : kk = 17
        · rw [if_pos h17] at HX
          rw [h17] at d0
          obtain ⟨ml, hml⟩ : ∃ n, m.l.toNat = n := ⟨_, rfl⟩
          have e1 : (m.l : Int) = (ml : Int) := by omega
          have HLM2 := HLM.out 1 (by omega)
          rw [hml] at HX HLM2
          rw [e1] at d5
          have HSP1 := fun r e X' w' => HSP.out 1 r e X' w'
          rw [show W1.drewN 1 = W1.drew from rfl] at HLM2 HSP1
          clear HTK hml e1 hon hadd htk hkk HRS HLM HSP
          go_enter Try.func29, Try.ntmps29
          go_wp2_with fail

          go_still_tail 6, (by kernel_rfl)
          change wpList _ _ _ _ _ (World.drew W1)
          generalize World.drew W1 = Y at HLM2 HSP1 ⊢
          have HLM2 := Lib.hid HLM2
          have HSP1 := Lib.hid HSP1
          go_wp2_with (first | (go_at_call 19; (with_reducible refine HLM2.out.mono ?_); intro e w6 hP; obtain ⟨rfl, h2⟩ := HSP1.out _ _ _ _ hP; have H2 := Lib.hid h2; clear hP h2) | fail)
          go_ret
          rw [HE.out, HX.out]
          exact ⟨rfl, H2.out⟩
        · have n17 : (kk == 17) = false := by simp [h17]
          rw [if_neg h17] at HX
          clear HTK hon hadd htk hkk HRS HLM HSP
          go_enter Try.func29, Try.ntmps29
          go_wp2_with fail
          go_ret
          rw [HE.out, HX.out]
          exact ⟨rfl, HSAME.out⟩
end
end
section
set_option linter.unusedVariables false
set_option linter.unusedSimpArgs false
open Go.RowKit
theorem taken_lt {Q : QS} (h : Q.ok) : takenQ Q ≤ 1099511640000 := by
  have a := h.b.rh
  have b := h.b.hm
  have c := h.lw
  have d := h.win
  unfold takenQ
  split
  · have e := h.fl (by assumption)
    omega
  · omega
theorem on_end {Q : QS} (h : Q.ok) {m : FN} {n : Nat} (h0 : onE Q m n = 0) (h8 : m.k = 8) : m.o.toNat + n ≤ takenQ Q + 2048 := by
  have c := h.lw
  have d := h.win
  unfold onE at h0
  by_cases hs : m.s = Q.id
  · rw [if_pos hs, if_pos h8] at h0
    unfold onSE at h0
    by_cases hl : Q.lim < m.o.toNat + n
    · rw [if_pos hl] at h0
      cases h0
    · rw [if_neg hl] at h0
      by_cases h5 : 5 ≤ Q.st
      · rw [if_pos h5] at h0
        split at h0
        · cases h0
        · rename_i hf
          unfold takenQ
          rw [if_pos h5]
          omega
      · unfold takenQ
        rw [if_neg h5]
        omega
  · rw [if_neg hs] at h0
    cases h0
theorem settle_taken (Q : QS) : takenQ (settleQ Q) = takenQ Q := by
  unfold settleQ
  split
  · rename_i h2
    split
    · unfold takenQ
      rw [if_neg (by show ¬ 5 ≤ 3; omega), if_neg (by omega)]
    · split
      · unfold takenQ
        rw [if_neg (by show ¬ 5 ≤ 2; omega), if_neg (by omega)]
      · rfl
  · rfl
theorem on_taken {Q : QS} (h : Q.ok) (m : FN) (bs : List Int) : takenQ Q ≤ takenQ (onX Q m bs) := by
  unfold onX
  split
  · split
    · unfold onSX
      split
      · rename_i hh
        rw [settle_taken]
        unfold takenQ
        rw [if_neg (by omega), if_neg (by show ¬ 5 ≤ Q.st; omega)]
        exact Nat.le_refl _
      · exact Nat.le_refl _
    · split
      · unfold onRX
        split
        · rename_i hh
          obtain ⟨h0, h2⟩ := hh
          have a := h.b.rh
          unfold onRE at h0
          by_cases hl : Q.lim < m.f.toNat
          · rw [if_pos hl] at h0
            cases h0
          · rw [if_neg hl] at h0
            have h5 : ¬ 5 ≤ Q.st := by omega
            simp only [h5, if_false] at h0
            by_cases hf : (Q.b.en = true ∧ m.f.toNat ≠ Q.b.fi) ∨ m.f.toNat < Q.b.hi
            · rw [if_pos hf] at h0
              cases h0
            · unfold takenQ
              rw [if_neg (by omega), if_pos (by show 5 ≤ 5; omega)]
              show Q.b.rd ≤ m.f.toNat
              omega
        · exact Nat.le_refl _
      · exact Nat.le_refl _
  · exact Nat.le_refl _
structure TS.ok (T : TS) : Prop where
  r : T.r.ok
  cb : T.cb = takenQ T.r
  cz : T.cz.length ≤ 2048
theorem addM_lek (b : Nat) (s : List Bool) (lo hi k : Nat) (h1 : s.length ≤ k) (h2 : hi ≤ b + k) : (addM b s lo hi).length ≤ k := by
  unfold addM
  rw [List.length_map, List.length_range]
  split <;> omega
theorem frS_ok (X : XS) (id : Nat) (h : id < 18446744073709551616) : (frS X id).ok := ⟨qs0_ok id X.msd h, rfl, Nat.zero_le _⟩
theorem TS.ok.came {T : TS} (h : T.ok) {m : FN} {bs : List Int} (hm : m.wf) (hb : Byt bs) (h0 : onE T.r m bs.length = 0) (en : Nat) (hen : m.k = 8 → en ≤ T.cb + 2048) : (cameT T (onX T.r m bs) m.k m.o.toNat en).ok := by
  refine ⟨onX_ok18 h.r m bs hm hb, rfl, ?_⟩
  show ((if m.k = 8 then addM T.cb T.cz m.o.toNat en else T.cz).drop _).length ≤ 2048
  rw [List.length_drop]
  have hc := h.cz
  split
  · have := addM_lek T.cb T.cz m.o.toNat en 2048 hc (hen (by assumption))
    omega
  · omega
theorem TS.ok.tk {T : TS} (h : T.ok) {m : FN} {bs : List Int} (hm : m.wf) (hb : Byt bs) (lim got en : Nat) (hen : onE T.r m bs.length = 0 → m.k = 8 → en ≤ T.cb + 2048) : (tkX T lim got en m bs).ok := by
  unfold tkX
  split
  · exact h
  · split
    · rename_i h0
      exact h.came hm hb h0 en (hen h0)
    · exact h
theorem TS.ok.tl {T : TS} (h : T.ok) {m : FN} {bs : List Int} (hm : m.wf) (hb : Byt bs) (lim got : Nat) : (tlX T lim got m bs).ok := by
  unfold tlX
  split
  · exact h.tk hm hb _ _ _ fun h0 h8 => by rw [h.cb]; exact on_end h.r h0 h8
  · split
    · rename_i h4
      exact h.tk hm hb _ _ _ fun h0 h8 => by omega
    · split
      · exact ⟨h.r, h.cb, h.cz⟩
      · split
        · exact ⟨h.r, h.cb, h.cz⟩
        · exact h
section
variable {w0 W W' wr : World} {s x q p : Nat} {v0 v1 va vc : Value} {E0 E1 : List En} {X : XS} {T : TS} {Oq Op O : Nat → Prop}
/-- tell, of a stream whose marks are as they should be. -/
theorem tell_ok (hT : Tt w0 W s v0 v1 E0 E1 X) (h0 : E0.length ≤ 100000) (h1 : E1.length ≤ 100000) (hx : Str w0 W x O T) (hok : T.ok) (m : FN) (d r : Sl) (bs : List Int) (hm : m.wf) (hd : RdP W (fun b => ¬ O b) d.A d.n bs) (hdc : d.n ≤ d.c) (hdn : d.n < 9223372036854775808)
    (hlim : X.limit < 18446744073709551616) (hon : m.k = 8 → m.o.toNat + bs.length < 18446744073709551616) :
    Calls Try.prog 29 #[.pointer (some ⟨s, 0, none⟩), .pointer (some ⟨x, 0, none⟩), frV m d r] W fun e w' => e = .returned (.int .i64 (tlE T X.limit (gotS (rise E0 E1)) m bs.length)) ∧ StPost w0 x O (tlX T X.limit (gotS (rise E0 E1)) m bs) W w' := by
  obtain ⟨q, p, Oq, Op, va, vc, rfl, h⟩ := hx
  have ht := taken_lt hok.r
  have hcb := hok.cb
  have hcz := hok.cz
  exact tell_any hT h0 h1 h m d r bs hm hd hdc hdn hlim (by omega) (by omega) hon (fun a b => by have := on_end hok.r a b; omega) (fun a => ⟨by rw [hcb]; exact on_taken hok.r m bs, by have := taken_lt (onX_ok18 hok.r m bs hm hd.byt); omega⟩)
end
end
section
set_option linter.unusedVariables false
set_option linter.unusedSimpArgs false
open Go.RowKit
section
variable {w0 W wr w' : World} {s m i : Nat} {v0 v1 : Value} {E0 E1 F0 F1 : List En} {X : XS} {e : En} {f : TS → TS}
theorem Tt.uniq (h : Tt w0 W s v0 v1 E0 E1 X) {k m : Nat} {d e : En} (hk : (E0 ++ E1)[k]? = some d) (hm : (E0 ++ E1)[m]? = some e) (hid : d.T.id = e.T.id) : k = m := by
  have ids : ∀ (k : Nat) (d : En), (E0 ++ E1)[k]? = some d → (k < E0.length ∧ d.T.id = 4 * k) ∨ (E0.length ≤ k ∧ d.T.id = 4 * (k - E0.length) + 1) := fun k d hk => by
    rcases Nat.lt_or_ge k E0.length with e | e
    · rw [List.getElem?_append_left e] at hk
      exact .inl ⟨e, h.i0 k d hk⟩
    · rw [List.getElem?_append_right e] at hk
      exact .inr ⟨e, h.i1 _ d hk⟩
  have a := ids k d hk
  have c := ids m e hm
  omega
/-- The first i of those that rise have turned by f. -/
structure Tn (f : TS → TS) (w0 W wr : World) (s : Nat) (v0 v1 : Value) (E0 E1 : List En) (X : XS) (i : Nat) (F0 F1 : List En) : Prop where
  tt : Tt w0 wr s v0 v1 F0 F1 X
  l0 : F0.length = E0.length
  l1 : F1.length = E1.length
  el : ∀ (m : Nat) (e : En), (E0 ++ E1)[m]? = some e → ∃ e', (F0 ++ F1)[m]? = some e' ∧ e'.x = e.x ∧ (e'.T = e.T ∨ e'.T = f e.T) ∧ (e ∈ (rise E0 E1).take i → e'.T = f e.T)
  kp : Kept (fun j => ∃ e ∈ E0 ++ E1, e.O j) W wr
  ov : ∀ e' ∈ F0 ++ F1, ∀ j, e'.O j → (∃ e ∈ E0 ++ E1, e.O j) ∨ W.heap.size ≤ j
theorem Tn.start (h : Tt w0 W s v0 v1 E0 E1 X) : Tn f w0 W W s v0 v1 E0 E1 X 0 E0 E1 :=
  ⟨h, rfl, rfl, fun m e hm => ⟨e, hm, rfl, .inl rfl, fun hh => by simp at hh⟩, Kept.refl _ _, fun e he j hj => .inl ⟨e, he, hj⟩⟩
theorem Tn.below (h : Tn f w0 W wr s v0 v1 E0 E1 X i F0 F1) (k : Below wr.heap.size wr w') : Tn f w0 W w' s v0 v1 E0 E1 X i F0 F1 :=
  { h with tt := h.tt.below k, kp := h.kp.trans' (Kept.of_below k fun _ => False) fun _ e => e.elim }
/-- The one whose turn it is. -/
theorem Tn.next (h : Tn f w0 W wr s v0 v1 E0 E1 X i F0 F1) (hi : (rise E0 E1)[i]? = some e) : ∃ (m : Nat) (e' : En), (E0 ++ E1)[m]? = some e ∧ (F0 ++ F1)[m]? = some e' ∧ e'.x = e.x ∧ Str w0 wr e.x e'.O e'.T := by
  obtain ⟨m, hm⟩ := List.getElem?_of_mem (rise_mem (List.mem_of_getElem? hi))
  obtain ⟨e', h1, h2, h3, _⟩ := h.el m e hm
  exact ⟨m, e', hm, h1, h2, h2 ▸ h.tt.ea e' (List.mem_of_getElem? h1)⟩
theorem Tn.step {e' : En} (h : Tn f w0 W wr s v0 v1 E0 E1 X i F0 F1) (hT : Tt w0 W s v0 v1 E0 E1 X) (hff : ∀ T, f (f T) = f T) (hfid : ∀ T, (f T).id = T.id) (hi : (rise E0 E1)[i]? = some e) (hm : (E0 ++ E1)[m]? = some e) (hm' : (F0 ++ F1)[m]? = some e')
    (hP : StPost w0 e'.x e'.O (f e'.T) wr w') : ∃ G0 G1, Tn f w0 W w' s v0 v1 E0 E1 X (i + 1) G0 G1 := by
  obtain ⟨O', G0, G1, hG, hl, ht, hk, ho⟩ := h.tt.turn hm' hP (hfid _)
  have hml : m < (F0 ++ F1).length := (List.getElem?_eq_some_iff.1 hm').1
  have hs := h.kp.size
  have hll : (G0 ++ G1).length = (F0 ++ F1).length := by rw [hG, List.length_set]
  have hO' : ∀ j, e'.O j → (∃ e ∈ E0 ++ E1, e.O j) ∨ W.heap.size ≤ j := h.ov e' (List.mem_of_getElem? hm')
  refine ⟨G0, G1, ht, by rw [hl, h.l0], by rw [List.length_append, List.length_append] at hll; have := h.l1; omega, fun k d hd => ?_, h.kp.trans' hk hO', fun y hy j hj => ?_⟩
  · rw [hG, List.getElem?_set]
    by_cases hkm : m = k
    · subst hkm
      rw [if_pos rfl, if_pos hml]
      have hde : d = e := by rw [hm] at hd; injection hd with hd; exact hd.symm
      subst hde
      obtain ⟨e2, g1, g2, g3, _⟩ := h.el m d hd
      have hee : e2 = e' := by rw [hm'] at g1; injection g1 with g1; exact g1.symm
      subst hee
      have hfT : f e2.T = f d.T := by
        rcases g3 with g3 | g3
        · rw [g3]
        · rw [g3, hff]
      exact ⟨_, rfl, g2, .inr hfT, fun _ => hfT⟩
    · rw [if_neg hkm]
      obtain ⟨e2, g1, g2, g3, g4⟩ := h.el k d hd
      refine ⟨e2, g1, g2, g3, fun hin => ?_⟩
      rw [List.take_add_one, hi] at hin
      rcases List.mem_append.1 hin with hin | hin
      · exact g4 hin
      · simp at hin
        subst hin
        exact absurd (hT.uniq hm hd rfl) hkm
  · rw [hG] at hy
    rcases List.mem_or_eq_of_mem_set hy with hy | rfl
    · exact h.ov y hy j hj
    · rcases ho j hj with e | e
      · exact hO' j e
      · exact .inr (by omega)
end
end
end Go.Proofs.Ytndaikeeikimeaa
