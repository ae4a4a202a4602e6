/-
  The document's buffer: Next.
-/
import Derived.Test.YtoakahofiodbhaaDv
import Derived.Test.YtoakahofiodbhaaDk
import Derived.Test.YtoakahofiodbhaaHt
import Derived.Test.YtoakahofiodbhaaTk
namespace Go.Proofs.Ytoakahofiodbhaa
set_option linter.unusedVariables false
set_option linter.unusedSimpArgs false
open Go.RowKit
/-- What Next turns: the block itself, and the row of flags 'again'. -/
def rgO (q o : Nat) (L : List Value) : Nat → Prop := fun x => x = q ∨ ∃ v, L[o + 2]? = some v ∧ v.ownBlock = some x
/-- What the document's Next leaves. -/
def RNPost (base q o : Nat) (T : TypeId) (L : List Value) (O : Nat → Prop) (S : OS) (most limit : Nat) (w : World) (e : Ending) (w' : World) : Prop :=
  ∃ v, e = .returned (.tuple #[.int .u64 (nextR S most limit).off, v, .bool (nextR S most limit).fin, .bool (nextR S most limit).yes]) ∧ Own w' w.heap.size 5 v ((S.bs.drop (nextR S most limit).off).take (nextR S most limit).n) ∧
    ∃ L' O', Rs w' base q o T L' O' (nextO S most limit) ∧ Samo o L L' ∧ Kept (rgO q o L) w w' ∧ ∀ j, O' j → O j ∨ w.heap.size ≤ j
theorem sentO_end (S : OS) : sentO S S.bs.length 0 true = { S with en := true, el := false } := by
  obtain ⟨bs, ak, ag, gn, ov, en, ea, el⟩ := S
  unfold sentO
  simp
  funext j
  cases ag j
  · rfl
  · simp
    omega
section
variable {w : World} {base q o : Nat} {T : TypeId} {L : List Value} {O : Nat → Prop} {S : OS}
set_option maxHeartbeats 16000000 in
set_option maxRecDepth 100000 in
theorem rnext_a (h : Rs w base q o T L O S) (hok : S.ok) (hL : S.bs.length ≤ 1000000) (most : Int) (hm : -9223372036854775808 ≤ most ∧ most < 4611686018427387904) (limit : Nat) (hl : limit < 18446744073709551616) (x : Nat) (hf : fromO S most.toNat limit = (x, x)) :
    Calls Try.prog 23 #[.pointer (some ⟨q, o, none⟩), .int .i64 most, .int .u64 limit] w (RNPost base q o T L O S most.toNat limit w) := by
  obtain ⟨M, hM⟩ : ∃ M, M = most.toNat := ⟨_, rfl⟩
  rw [← hM] at hf ⊢
  have hMz : (if most < 0 then 0 else most) = (M : Int) := by split <;> omega
  have HFR := Lib.hid (rfrom_any h hok hL M limit (by omega) hl)
  rw [hf] at HFR
  unfold frV at HFR
  simp only at HFR
  have HEN := Lib.hid (fun (W : World) (hh : Rs W base q o T L O S) => fun d => Calls.quiet_of_same (rend_any (hh.drewN d)))
  have HRS := Lib.hid (fun d => h.drewN d)
  have hgl := hok.gl
  have HNX : Hid (nextR S M limit = if firstO S = S.gn ∧ S.gn = S.bs.length ∧ endO S = true then ⟨S.bs.length, 0, true, true⟩ else ⟨0, 0, false, false⟩) := Lib.hid (by
    unfold nextR
    rw [hf]
    simp)
  have HFI : Hid (∀ b : Bool, (b = true ↔ ∃ j, j < S.gn ∧ S.ag j = true) → (firstO S = S.gn ↔ b = false)) := Lib.hid (fun b hb => by
    constructor
    · intro h1
      cases hc : b with
      | false => rfl
      | true =>
        obtain ⟨j, hj, ha⟩ := hb.1 hc
        have := firstO_no (S := S) j (by omega)
        rw [ha] at this
        cases this
    · intro h1
      refine first_gn fun j hj => ?_
      cases hc : S.ag j with
      | false => rfl
      | true =>
        have := hb.2 ⟨j, hj, hc⟩
        rw [h1] at this
        cases this)
  have HQN : Hid (∀ w' d, w' = w.drewN d → nextR S M limit = ⟨0, 0, false, false⟩ → RNPost base q o T L O S M limit w (.returned (.tuple #[.int .u64 0, .slice none 0 0, .bool false, .bool false])) w') := Lib.hid (fun w' d hw hr => by
    refine ⟨_, by rw [hr]; rfl, by rw [hr]; exact Own.none_ _ _ _, L, O, ?_, Samo.refl _ _, by rw [hw]; exact (Kept.refl _ _).drewN d, fun j hj => .inl hj⟩
    unfold nextO
    rw [hr, sentO_none, hw]
    exact h.drewN d)
  obtain ⟨Ab, cb, Aa, ca, Ag, cg, C, A, hO, hr, hrf, l1, l2⟩ := h.open_
  have hrf0 := hrf
  obtain ⟨hfc, aw, hfa, hag, haw⟩ := hrf
  have HQE : Hid (∀ X d, X = w.drewN d → nextR S M limit = ⟨S.bs.length, 0, true, true⟩ → RNPost base q o T L O S M limit w (.returned (.tuple #[.int .u64 S.bs.length, .slice none 0 0, .bool true, .bool true])) ((X.setCell ⟨q, o + 5, none⟩ (.bool true)).setCell ⟨q, o + 7, none⟩ (.bool false)) ∧ X.cell? ⟨q, o + 5, none⟩ = some (.bool S.en) ∧ X.frozen? ⟨q, o + 5, none⟩ = false ∧ (X.setCell ⟨q, o + 5, none⟩ (.bool true)).cell? ⟨q, o + 7, none⟩ = some (.bool S.el) ∧ (X.setCell ⟨q, o + 5, none⟩ (.bool true)).frozen? ⟨q, o + 7, none⟩ = false ∧ X.cell? ⟨q, o, none⟩ = some (.slice Ab S.bs.length cb) ∧ ((X.setCell ⟨q, o + 5, none⟩ (.bool true)).setCell ⟨q, o + 7, none⟩ (.bool false)).cell? ⟨q, o, none⟩ = some (.slice Ab S.bs.length cb)) := Lib.hid (fun X d hX hn => by
    have hx := hr.drewN d
    rw [← hX] at hx
    have h5 := hx.top 5 (.bool true) (gn' := S.gn) (ov' := S.ov) (en' := true) (ea' := S.ea) (el' := S.el) rfl (by omega)
    have h7 := h5.top 7 (.bool false) (gn' := S.gn) (ov' := S.ov) (en' := true) (ea' := S.ea) (el' := false) rfl (by omega)
    refine ⟨⟨_, by rw [hn], by rw [hn]; exact Own.none_ _ _ _, _, _, ⟨_, _, _, C, A, rfl, ?_, ?_⟩, ((Samo.refl o L).set (i := 5) (by omega) (.bool true)).set (i := 7) (by omega) (.bool false), ?_, fun j hj => .inl (by rw [hO]; exact hj)⟩, hx.cell 5 rfl, hx.at_.frozen _, h5.cell 7 rfl, h5.at_.frozen _, hx.c0, h7.c0⟩
    · unfold nextO
      rw [hn, sentO_end]
      exact h7
    · unfold nextO
      rw [hn, sentO_end]
      exact ⟨hrf0.c, hrf0.a⟩
    · rw [hX]
      exact ((((Kept.refl _ w).drewN d).setCell (p := ⟨q, o + 5, none⟩) (.inl (.inl rfl)) _).setCell (p := ⟨q, o + 7, none⟩) (.inl (.inl rfl)) _))
  have HC : Hid (∀ i, i < S.gn → ∃ g, Aa = some ⟨g, 0, none⟩ ∧ ∀ d, (w.drewN d).cell? ⟨g, i, none⟩ = some (.bool (S.ak i))) := Lib.hid (fun i hi => by
    obtain ⟨g, h1, h2, _⟩ := owb_get hr.oa (i := i) (b := S.ak i) (by rw [hfc]; exact tabB_get _ _ _ (by omega))
    exact ⟨g, h1, fun d => h2⟩)
  have HG : Hid (∀ i, i < S.gn → ∃ g, Ag = some ⟨g, 0, none⟩ ∧ ∀ d, (w.drewN d).cell? ⟨g, i, none⟩ = some (.bool (aw i))) := Lib.hid (fun i hi => by
    obtain ⟨g, h1, h2, _⟩ := owb_get hr.og (i := i) (b := aw i) (by rw [hfa]; exact tabB_get _ _ _ (by omega))
    exact ⟨g, h1, fun d => h2⟩)
  have HAG := Lib.hid hag
  have HCL : Hid (∀ W d, W = w.drewN d → W.cell? ⟨q, o, none⟩ = some (.slice Ab S.bs.length cb) ∧ W.cell? ⟨q, o + 1, none⟩ = some (.slice Aa S.bs.length ca) ∧ W.cell? ⟨q, o + 2, none⟩ = some (.slice Ag S.bs.length cg) ∧ W.cell? ⟨q, o + 3, none⟩ = some (.int .i64 S.gn)) := Lib.hid (fun W d hW => by
    have hx := hr.drewN d
    rw [← hW] at hx
    exact ⟨hx.c0, hx.cell 1 rfl, hx.cell 2 rfl, hx.cell 3 rfl⟩)
  clear hr hfc hfa hag haw hrf0 h hok hM hf
  have wlen : IntKind.u64.wrap (S.bs.length : Int) = (S.bs.length : Int) := by rw [IntKind.wrap_u64]; omega
  have hgb : S.gn ≤ 1000000 := by omega
  generalize hlen : S.bs.length = n at *
  clear hlen
  rcases Int.lt_or_le most 0 with hmz | hmz
  · have hM0 : M = 0 := by rw [if_pos hmz] at hMz; omega
    subst hM0
    clear hMz
    have HFR : Hid (Calls Try.prog 34 #[.pointer (some ⟨q, o, none⟩), .int .i64 0, .int .u64 limit] w fun e w' => e = .returned (.tuple #[.int .i64 x, .int .i64 x]) ∧ ∃ d, w' = w.drewN d) := HFR
    go_enter Try.func23, Try.ntmps23
    go_wp2_with (go_at_call 34; (with_reducible refine HFR.out.mono ?_); rintro ez w1 ⟨rfl, d, hd⟩; obtain ⟨k0, k1, k2, k3⟩ := HCL.out w1 d hd; have HD := Lib.hid hd; clear hd)
    go_loopg [12, 13] S.gn (fun kx s12 s13 wr => ∃ (t : Nat) (b : Bool), s12 = .bool b ∧ s13 = .int .i64 t ∧ t ≤ S.gn ∧ S.gn - t ≤ kx ∧ wr = w1 ∧ Hid (b = true ↔ ∃ j, j < t ∧ S.ag j = true))
    case atStart => exact ⟨0, false, rfl, rfl, Nat.zero_le _, by omega, rfl, Lib.hid (by simp)⟩
    case round =>
      obtain ⟨t, b, rfl, rfl, htg, hkx, rfl, hb⟩ := hrel
      rcases Nat.lt_or_ge t S.gn with ht | ht
      · have htz : (t : Int) < (S.gn : Int) := by omega
        have htn : (t : Int) < (n : Int) := by omega
        obtain ⟨g1, hA1, x1⟩ := HG.out t ht
        obtain ⟨g2, hA2, x2⟩ := HC.out t ht
        subst hA1
        subst hA2
        have x1 := x1 d
        have x2 := x2 d
        rw [← HD.out] at x1 x2
        have hat := HAG.out t
        have HNB : Hid (∀ b2 : Bool, b2 = (b || S.ag t) → (b2 = true ↔ ∃ j, j < t + 1 ∧ S.ag j = true)) := Lib.hid (fun b2 h2 => by
          rw [h2, Bool.or_eq_true, hb.out]
          constructor
          · rintro (⟨j, h1, h3⟩ | h1)
            · exact ⟨j, by omega, h3⟩
            · exact ⟨t, by omega, h1⟩
          · rintro ⟨j, h1, h3⟩
            rcases Nat.lt_or_ge j t with h4 | h4
            · exact .inl ⟨j, h4, h3⟩
            · obtain rfl : j = t := by omega
              exact .inr h3)
        clear hb
        cases b with
        | true =>
          have HX := Lib.hid (HNB.out true (by simp))
          clear hat
          go_wp2
          go_roundg (S.gn - (t + 1))
          case measure => omega
          case rel => exact ⟨t + 1, true, rfl, by simp, by omega, Nat.le_refl _, rfl, Lib.hid ⟨fun _ => HX.out.1 trivial, fun _ => rfl⟩⟩
        | false =>
          cases h1 : aw t with
          | false =>
            rw [h1] at x1 hat
            have HX := Lib.hid (HNB.out false (by rw [hat]; rfl))
            clear hat h1
            go_wp2
            go_roundg (S.gn - (t + 1))
            case measure => omega
            case rel => exact ⟨t + 1, false, rfl, by simp, by omega, Nat.le_refl _, rfl, HX⟩
          | true =>
            cases h2 : S.ak t with
            | false =>
              rw [h1] at x1 hat
              rw [h2] at x2 hat
              have HX := Lib.hid (HNB.out true (by rw [hat]; rfl))
              clear hat h1 h2
              go_wp2
              go_roundg (S.gn - (t + 1))
              case measure => omega
              case rel => exact ⟨t + 1, true, rfl, by simp, by omega, Nat.le_refl _, rfl, Lib.hid ⟨fun _ => HX.out.1 trivial, fun _ => rfl⟩⟩
            | true =>
              rw [h1] at x1 hat
              rw [h2] at x2 hat
              have HX := Lib.hid (HNB.out false (by rw [hat]; rfl))
              clear hat h1 h2
              go_wp2
              go_roundg (S.gn - (t + 1))
              case measure => omega
              case rel => exact ⟨t + 1, false, rfl, by simp, by omega, Nat.le_refl _, rfl, HX⟩
      · obtain rfl : t = S.gn := by omega
        have htz : ¬ (S.gn : Int) < (S.gn : Int) := by omega
        have hfi := HFI.out b hb.out
        have HEX := Lib.hid (HEN.out wr (by have := HRS.out d; rw [← HD.out] at this; exact this))
        clear hb HC HG HCL HFR HRS HEN HFI HAG
        generalize S.gn = gn at *
        cases b with
        | true =>
          have hnx : nextR S 0 limit = ⟨0, 0, false, false⟩ := by
            rw [HNX.out, if_neg]
            rintro ⟨h1, _⟩
            have := hfi.1 h1
            cases this
          have HQ := Lib.hid (fun d2 (w' : World) (hw : w' = wr.drewN d2) => HQN.out w' (d + d2) (by rw [hw, HD.out, World.drewN_drewN]) hnx)
          clear hfi hnx HNX HQN HQE
          go_wp2
          go_quiet (fail)
          go_wp2
          refine bodyPost_ret (results_tmp4 rfl _ _ _) rfl ?_
          exact HQ.out _ _ rfl
        | false =>
          by_cases hgn : gn = n
          · subst hgn
            cases hen : endO S with
            | false =>
              have hnx : nextR S 0 limit = ⟨0, 0, false, false⟩ := by
                rw [HNX.out, if_neg]
                rintro ⟨_, _, h1⟩
                rw [hen] at h1
                cases h1
              rw [hen] at HEX
              have HQ := Lib.hid (fun d2 (w' : World) (hw : w' = wr.drewN d2) => HQN.out w' (d + d2) (by rw [hw, HD.out, World.drewN_drewN]) hnx)
              clear hfi hnx HNX HQN HQE hen
              go_wp2
              go_quiet ((go_at_call 35; (with_reducible exact HEX.out _)))
              go_wp2
              refine bodyPost_ret (results_tmp4 rfl _ _ _) rfl ?_
              exact HQ.out _ _ rfl
            | true =>
              have hnx : nextR S 0 limit = ⟨gn, 0, true, true⟩ := by
                rw [HNX.out, if_pos ⟨hfi.2 rfl, rfl, hen⟩]
              rw [hen] at HEX
              have HQ := Lib.hid (fun d2 (w' : World) (hw : w' = wr.drewN d2) => HQE.out w' (d + d2) (by rw [hw, HD.out, World.drewN_drewN]) hnx)
              clear hfi hnx HNX HQN HQE hen
              go_wp2
              go_quiet ((go_at_call 35; (with_reducible exact HEX.out _)))
              generalize hX : World.drewN wr _ = X
              obtain ⟨y1, y2, y3, y4, y5, y6, y7⟩ := HQ.out _ X hX.symm
              have HY := Lib.hid y1
              clear y1 hX
              go_wp2
              refine bodyPost_ret (results_tmp4 rfl _ _ _) rfl ?_
              exact HY.out
          · have hgz : ¬ (gn : Int) = (n : Int) := by omega
            have hnx : nextR S 0 limit = ⟨0, 0, false, false⟩ := by
              rw [HNX.out, if_neg]
              rintro ⟨_, h1, _⟩
              exact hgn h1
            have HQ := Lib.hid (fun d2 (w' : World) (hw : w' = wr.drewN d2) => HQN.out w' (d + d2) (by rw [hw, HD.out, World.drewN_drewN]) hnx)
            clear hfi hnx HNX HQN HQE
            go_wp2
            go_quiet (fail)
            go_wp2
            refine bodyPost_ret (results_tmp4 rfl _ _ _) rfl ?_
            exact HQ.out _ _ rfl
  · have hmn : ¬ most < 0 := by omega
    rw [if_neg hmn] at hMz
    subst hMz
    go_enter Try.func23, Try.ntmps23
    go_wp2_with (go_at_call 34; (with_reducible refine HFR.out.mono ?_); rintro ez w1 ⟨rfl, d, hd⟩; obtain ⟨k0, k1, k2, k3⟩ := HCL.out w1 d hd; have HD := Lib.hid hd; clear hd)
    go_loopg [12, 13] S.gn (fun kx s12 s13 wr => ∃ (t : Nat) (b : Bool), s12 = .bool b ∧ s13 = .int .i64 t ∧ t ≤ S.gn ∧ S.gn - t ≤ kx ∧ wr = w1 ∧ Hid (b = true ↔ ∃ j, j < t ∧ S.ag j = true))
    case atStart => exact ⟨0, false, rfl, rfl, Nat.zero_le _, by omega, rfl, Lib.hid (by simp)⟩
    case round =>
      obtain ⟨t, b, rfl, rfl, htg, hkx, rfl, hb⟩ := hrel
      rcases Nat.lt_or_ge t S.gn with ht | ht
      · have htz : (t : Int) < (S.gn : Int) := by omega
        have htn : (t : Int) < (n : Int) := by omega
        obtain ⟨g1, hA1, x1⟩ := HG.out t ht
        obtain ⟨g2, hA2, x2⟩ := HC.out t ht
        subst hA1
        subst hA2
        have x1 := x1 d
        have x2 := x2 d
        rw [← HD.out] at x1 x2
        have hat := HAG.out t
        have HNB : Hid (∀ b2 : Bool, b2 = (b || S.ag t) → (b2 = true ↔ ∃ j, j < t + 1 ∧ S.ag j = true)) := Lib.hid (fun b2 h2 => by
          rw [h2, Bool.or_eq_true, hb.out]
          constructor
          · rintro (⟨j, h1, h3⟩ | h1)
            · exact ⟨j, by omega, h3⟩
            · exact ⟨t, by omega, h1⟩
          · rintro ⟨j, h1, h3⟩
            rcases Nat.lt_or_ge j t with h4 | h4
            · exact .inl ⟨j, h4, h3⟩
            · obtain rfl : j = t := by omega
              exact .inr h3)
        clear hb
        cases b with
        | true =>
          have HX := Lib.hid (HNB.out true (by simp))
          clear hat
          go_wp2
          go_roundg (S.gn - (t + 1))
          case measure => omega
          case rel => exact ⟨t + 1, true, rfl, by simp, by omega, Nat.le_refl _, rfl, Lib.hid ⟨fun _ => HX.out.1 trivial, fun _ => rfl⟩⟩
        | false =>
          cases h1 : aw t with
          | false =>
            rw [h1] at x1 hat
            have HX := Lib.hid (HNB.out false (by rw [hat]; rfl))
            clear hat h1
            go_wp2
            go_roundg (S.gn - (t + 1))
            case measure => omega
            case rel => exact ⟨t + 1, false, rfl, by simp, by omega, Nat.le_refl _, rfl, HX⟩
          | true =>
            cases h2 : S.ak t with
            | false =>
              rw [h1] at x1 hat
              rw [h2] at x2 hat
              have HX := Lib.hid (HNB.out true (by rw [hat]; rfl))
              clear hat h1 h2
              go_wp2
              go_roundg (S.gn - (t + 1))
              case measure => omega
              case rel => exact ⟨t + 1, true, rfl, by simp, by omega, Nat.le_refl _, rfl, Lib.hid ⟨fun _ => HX.out.1 trivial, fun _ => rfl⟩⟩
            | true =>
              rw [h1] at x1 hat
              rw [h2] at x2 hat
              have HX := Lib.hid (HNB.out false (by rw [hat]; rfl))
              clear hat h1 h2
              go_wp2
              go_roundg (S.gn - (t + 1))
              case measure => omega
              case rel => exact ⟨t + 1, false, rfl, by simp, by omega, Nat.le_refl _, rfl, HX⟩
      · obtain rfl : t = S.gn := by omega
        have htz : ¬ (S.gn : Int) < (S.gn : Int) := by omega
        have hfi := HFI.out b hb.out
        have HEX := Lib.hid (HEN.out wr (by have := HRS.out d; rw [← HD.out] at this; exact this))
        clear hb HC HG HCL HFR HRS HEN HFI HAG
        generalize S.gn = gn at *
        cases b with
        | true =>
          have hnx : nextR S M limit = ⟨0, 0, false, false⟩ := by
            rw [HNX.out, if_neg]
            rintro ⟨h1, _⟩
            have := hfi.1 h1
            cases this
          have HQ := Lib.hid (fun d2 (w' : World) (hw : w' = wr.drewN d2) => HQN.out w' (d + d2) (by rw [hw, HD.out, World.drewN_drewN]) hnx)
          clear hfi hnx HNX HQN HQE
          go_wp2
          go_quiet (fail)
          go_wp2
          refine bodyPost_ret (results_tmp4 rfl _ _ _) rfl ?_
          exact HQ.out _ _ rfl
        | false =>
          by_cases hgn : gn = n
          · subst hgn
            cases hen : endO S with
            | false =>
              have hnx : nextR S M limit = ⟨0, 0, false, false⟩ := by
                rw [HNX.out, if_neg]
                rintro ⟨_, _, h1⟩
                rw [hen] at h1
                cases h1
              rw [hen] at HEX
              have HQ := Lib.hid (fun d2 (w' : World) (hw : w' = wr.drewN d2) => HQN.out w' (d + d2) (by rw [hw, HD.out, World.drewN_drewN]) hnx)
              clear hfi hnx HNX HQN HQE hen
              go_wp2
              go_quiet ((go_at_call 35; (with_reducible exact HEX.out _)))
              go_wp2
              refine bodyPost_ret (results_tmp4 rfl _ _ _) rfl ?_
              exact HQ.out _ _ rfl
            | true =>
              have hnx : nextR S M limit = ⟨gn, 0, true, true⟩ := by
                rw [HNX.out, if_pos ⟨hfi.2 rfl, rfl, hen⟩]
              rw [hen] at HEX
              have HQ := Lib.hid (fun d2 (w' : World) (hw : w' = wr.drewN d2) => HQE.out w' (d + d2) (by rw [hw, HD.out, World.drewN_drewN]) hnx)
              clear hfi hnx HNX HQN HQE hen
              go_wp2
              go_quiet ((go_at_call 35; (with_reducible exact HEX.out _)))
              generalize hX : World.drewN wr _ = X
              obtain ⟨y1, y2, y3, y4, y5, y6, y7⟩ := HQ.out _ X hX.symm
              have HY := Lib.hid y1
              clear y1 hX
              go_wp2
              refine bodyPost_ret (results_tmp4 rfl _ _ _) rfl ?_
              exact HY.out
          · have hgz : ¬ (gn : Int) = (n : Int) := by omega
            have hnx : nextR S M limit = ⟨0, 0, false, false⟩ := by
              rw [HNX.out, if_neg]
              rintro ⟨_, h1, _⟩
              exact hgn h1
            have HQ := Lib.hid (fun d2 (w' : World) (hw : w' = wr.drewN d2) => HQN.out w' (d + d2) (by rw [hw, HD.out, World.drewN_drewN]) hnx)
            clear hfi hnx HNX HQN HQE
            go_wp2
            go_quiet (fail)
            go_wp2
            refine bodyPost_ret (results_tmp4 rfl _ _ _) rfl ?_
            exact HQ.out _ _ rfl
end
end Go.Proofs.Ytoakahofiodbhaa
