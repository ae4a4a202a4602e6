/-
  The document's buffer: Next.
-/
import Derived.Test.YtbejpafephofaaaGreatMq19
import Derived.Test.YtbejpafephofaaaGreatMq9
import Derived.Deep.CutRange
import Derived.BigQuiet
namespace Go.Proofs.YtbejpafephofaaaGreat
section
set_option linter.unusedVariables false
set_option linter.unusedSimpArgs false
open Go.RowKit
/-- What Next turns: the block itself, and the row of flags 'again'. -/
def rgO (q o : Nat) (L : List Value) : Nat → Prop := fun x => x = q ∨ ∃ v, L[o + 2]? = some v ∧ v.ownBlock = some x
/-- What the document's Next leaves. -/
def RNPost (base q o : Nat) (T : TypeId) (L : List Value) (O : Nat → Prop) (S : OS) (most limit : Nat) (w : World) (e : Ending) (w' : World) : Prop :=
  ∃ v, e = .returned (.tuple #[.int .u64 (nextR S most limit).off, v, .bool (nextR S most limit).fin, .bool (nextR S most limit).yes]) ∧ Own w' w.heap.size 5 v ((S.bs.drop (nextR S most limit).off).take (nextR S most limit).n) ∧
    ∃ L' O', Rs w' base q o T L' O' (nextO S most limit) ∧ Samo o L L' ∧ Kept (rgO q o L) w w' ∧ ∀ j, O' j → O j ∨ w.heap.size ≤ j
theorem sentO_end (S : OS) : sentO S S.bs.length 0 true = { S with en := true, el := false } := by
  obtain ⟨bs, ak, ag, gn, ov, en, ea, el⟩ := S
  unfold sentO
  simp
  funext j
  cases ag j
  · rfl
  · simp
    omega
section
variable {w : World} {base q o : Nat} {T : TypeId} {L : List Value} {O : Nat → Prop} {S : OS}
set_option maxHeartbeats 16000000 in
set_option maxRecDepth 100000 in
theorem rnext_a (h : Rs w base q o T L O S) (hok : S.ok) (hL : S.bs.length ≤ 1000000) (most : Int) (hm : -9223372036854775808 ≤ most ∧ most < 4611686018427387904) (limit : Nat) (hl : limit < 18446744073709551616) (x : Nat) (hf : fromO S most.toNat limit = (x, x)) :
    Calls Tryz.prog 47 #[.pointer (some ⟨q, o, none⟩), .int .i64 most, .int .u64 limit] w (RNPost base q o T L O S most.toNat limit w) := by
  obtain ⟨M, hM⟩ : ∃ M, M = most.toNat := ⟨_, rfl⟩
  rw [← hM] at hf ⊢
  have hMz : (if most < 0 then 0 else most) = (M : Int) := by split <;> omega
  have HFR := Lib.hid (rfrom_any h hok hL M limit (by omega) hl)
  rw [hf] at HFR
  unfold dfrV at HFR
  simp only at HFR
  have HEN := Lib.hid (fun (W : World) (hh : Rs W base q o T L O S) => fun d => Calls.quiet_of_same (rend_any (hh.drewN d)))
  have HRS := Lib.hid (fun d => h.drewN d)
  have hgl := hok.gl
  have HNX : Hid (nextR S M limit = if firstO S = S.gn ∧ S.gn = S.bs.length ∧ endO S = true then ⟨S.bs.length, 0, true, true⟩ else ⟨0, 0, false, false⟩) := Lib.hid (by
    unfold nextR
    rw [hf]
    simp)
  have HFI : Hid (∀ b : Bool, (b = true ↔ ∃ j, j < S.gn ∧ S.ag j = true) → (firstO S = S.gn ↔ b = false)) := Lib.hid (fun b hb => by
    constructor
    · intro h1
      cases hc : b with
      | false => rfl
      | true =>
        obtain ⟨j, hj, ha⟩ := hb.1 hc
        have := firstO_no (S := S) j (by omega)
        rw [ha] at this
        cases this
    · intro h1
      refine first_gn fun j hj => ?_
      cases hc : S.ag j with
      | false => rfl
      | true =>
        have := hb.2 ⟨j, hj, hc⟩
        rw [h1] at this
        cases this)
  have HQN : Hid (∀ w' d, w' = w.drewN d → nextR S M limit = ⟨0, 0, false, false⟩ → RNPost base q o T L O S M limit w (.returned (.tuple #[.int .u64 0, .slice none 0 0, .bool false, .bool false])) w') := Lib.hid (fun w' d hw hr => by
    refine ⟨_, by rw [hr]; rfl, by rw [hr]; exact Own.none_ _ _ _, L, O, ?_, Samo.refl _ _, by rw [hw]; exact (Kept.refl _ _).drewN d, fun j hj => .inl hj⟩
    unfold nextO
    rw [hr, sentO_none, hw]
    exact h.drewN d)
  obtain ⟨Ab, cb, Aa, ca, Ag, cg, C, A, hO, hr, hrf, l1, l2⟩ := h.open_
  have hrf0 := hrf
  obtain ⟨hfc, aw, hfa, hag, haw⟩ := hrf
  have HQE : Hid (∀ X d, X = w.drewN d → nextR S M limit = ⟨S.bs.length, 0, true, true⟩ → RNPost base q o T L O S M limit w (.returned (.tuple #[.int .u64 S.bs.length, .slice none 0 0, .bool true, .bool true])) ((X.setCell ⟨q, o + 5, none⟩ (.bool true)).setCell ⟨q, o + 7, none⟩ (.bool false)) ∧ X.cell? ⟨q, o + 5, none⟩ = some (.bool S.en) ∧ X.frozen? ⟨q, o + 5, none⟩ = false ∧ (X.setCell ⟨q, o + 5, none⟩ (.bool true)).cell? ⟨q, o + 7, none⟩ = some (.bool S.el) ∧ (X.setCell ⟨q, o + 5, none⟩ (.bool true)).frozen? ⟨q, o + 7, none⟩ = false ∧ X.cell? ⟨q, o, none⟩ = some (.slice Ab S.bs.length cb) ∧ ((X.setCell ⟨q, o + 5, none⟩ (.bool true)).setCell ⟨q, o + 7, none⟩ (.bool false)).cell? ⟨q, o, none⟩ = some (.slice Ab S.bs.length cb)) := Lib.hid (fun X d hX hn => by
    have hx := hr.drewN d
    rw [← hX] at hx
    have h5 := hx.top 5 (.bool true) (gn' := S.gn) (ov' := S.ov) (en' := true) (ea' := S.ea) (el' := S.el) rfl (by omega)
    have h7 := h5.top 7 (.bool false) (gn' := S.gn) (ov' := S.ov) (en' := true) (ea' := S.ea) (el' := false) rfl (by omega)
    refine ⟨⟨_, by rw [hn], by rw [hn]; exact Own.none_ _ _ _, _, _, ⟨_, _, _, C, A, rfl, ?_, ?_⟩, ((Samo.refl o L).set (i := 5) (by omega) (.bool true)).set (i := 7) (by omega) (.bool false), ?_, fun j hj => .inl (by rw [hO]; exact hj)⟩, hx.cell 5 rfl, hx.at_.frozen _, h5.cell 7 rfl, h5.at_.frozen _, hx.c0, h7.c0⟩
    · unfold nextO
      rw [hn, sentO_end]
      exact h7
    · unfold nextO
      rw [hn, sentO_end]
      exact ⟨hrf0.c, hrf0.a⟩
    · rw [hX]
      exact ((((Kept.refl _ w).drewN d).setCell (p := ⟨q, o + 5, none⟩) (.inl (.inl rfl)) _).setCell (p := ⟨q, o + 7, none⟩) (.inl (.inl rfl)) _))
  have HC : Hid (∀ i, i < S.gn → ∃ g, Aa = some ⟨g, 0, none⟩ ∧ ∀ d, (w.drewN d).cell? ⟨g, i, none⟩ = some (.bool (S.ak i))) := Lib.hid (fun i hi => by
    obtain ⟨g, h1, h2, _⟩ := owb_get hr.oa (i := i) (b := S.ak i) (by rw [hfc]; exact tabB_get _ _ _ (by omega))
    exact ⟨g, h1, fun d => h2⟩)
  have HG : Hid (∀ i, i < S.gn → ∃ g, Ag = some ⟨g, 0, none⟩ ∧ ∀ d, (w.drewN d).cell? ⟨g, i, none⟩ = some (.bool (aw i))) := Lib.hid (fun i hi => by
    obtain ⟨g, h1, h2, _⟩ := owb_get hr.og (i := i) (b := aw i) (by rw [hfa]; exact tabB_get _ _ _ (by omega))
    exact ⟨g, h1, fun d => h2⟩)
  have HAG := Lib.hid hag
  have HCL : Hid (∀ W d, W = w.drewN d → W.cell? ⟨q, o, none⟩ = some (.slice Ab S.bs.length cb) ∧ W.cell? ⟨q, o + 1, none⟩ = some (.slice Aa S.bs.length ca) ∧ W.cell? ⟨q, o + 2, none⟩ = some (.slice Ag S.bs.length cg) ∧ W.cell? ⟨q, o + 3, none⟩ = some (.int .i64 S.gn)) := Lib.hid (fun W d hW => by
    have hx := hr.drewN d
    rw [← hW] at hx
    exact ⟨hx.c0, hx.cell 1 rfl, hx.cell 2 rfl, hx.cell 3 rfl⟩)
  clear hr hfc hfa hag haw hrf0 h hok hM hf
  have wlen : IntKind.u64.wrap (S.bs.length : Int) = (S.bs.length : Int) := by rw [IntKind.wrap_u64]; omega
  have hgb : S.gn ≤ 1000000 := by omega
  generalize hlen : S.bs.length = n at *
  clear hlen
  rcases Int.lt_or_le most 0 with hmz | hmz
  · have hM0 : M = 0 := by rw [if_pos hmz] at hMz; omega
    subst hM0
    clear hMz
    have HFR : Hid (Calls Tryz.prog 60 #[.pointer (some ⟨q, o, none⟩), .int .i64 0, .int .u64 limit] w fun e w' => e = .returned (.tuple #[.int .i64 x, .int .i64 x]) ∧ ∃ d, w' = w.drewN d) := HFR
    go_enter Tryz.func47, Tryz.ntmps47
    go_wp2_with (go_at_call 60; (with_reducible refine HFR.out.mono ?_); rintro ez w1 ⟨rfl, d, hd⟩; obtain ⟨k0, k1, k2, k3⟩ := HCL.out w1 d hd; have HD := Lib.hid hd; clear hd)
    go_loopg [12, 13] S.gn (fun kx s12 s13 wr => ∃ (t : Nat) (b : Bool), s12 = .bool b ∧ s13 = .int .i64 t ∧ t ≤ S.gn ∧ S.gn - t ≤ kx ∧ wr = w1 ∧ Hid (b = true ↔ ∃ j, j < t ∧ S.ag j = true))
    case atStart => exact ⟨0, false, rfl, rfl, Nat.zero_le _, by omega, rfl, Lib.hid (by simp)⟩
    case round =>
      obtain ⟨t, b, rfl, rfl, htg, hkx, rfl, hb⟩ := hrel
      rcases Nat.lt_or_ge t S.gn with ht | ht
      · have htz : (t : Int) < (S.gn : Int) := by omega
        have htn : (t : Int) < (n : Int) := by omega
        obtain ⟨g1, hA1, x1⟩ := HG.out t ht
        obtain ⟨g2, hA2, x2⟩ := HC.out t ht
        subst hA1
        subst hA2
        have x1 := x1 d
        have x2 := x2 d
        rw [← HD.out] at x1 x2
        have hat := HAG.out t
        have HNB : Hid (∀ b2 : Bool, b2 = (b || S.ag t) → (b2 = true ↔ ∃ j, j < t + 1 ∧ S.ag j = true)) := Lib.hid (fun b2 h2 => by
          rw [h2, Bool.or_eq_true, hb.out]
          constructor
          · rintro (⟨j, h1, h3⟩ | h1)
            · exact ⟨j, by omega, h3⟩
            · exact ⟨t, by omega, h1⟩
          · rintro ⟨j, h1, h3⟩
            rcases Nat.lt_or_ge j t with h4 | h4
            · exact .inl ⟨j, h4, h3⟩
            · obtain rfl : j = t := by omega
              exact .inr h3)
        clear hb
        cases b with
        | true =>
          have HX := Lib.hid (HNB.out true (by simp))
          clear hat
          go_wp2
          go_roundg (S.gn - (t + 1))
          case measure => omega
          case rel => exact ⟨t + 1, true, rfl, by simp, by omega, Nat.le_refl _, rfl, Lib.hid ⟨fun _ => HX.out.1 trivial, fun _ => rfl⟩⟩
        | false =>
          cases h1 : aw t with
          | false =>
            rw [h1] at x1 hat
            have HX := Lib.hid (HNB.out false (by rw [hat]; rfl))
            clear hat h1
            go_wp2
            go_roundg (S.gn - (t + 1))
            case measure => omega
            case rel => exact ⟨t + 1, false, rfl, by simp, by omega, Nat.le_refl _, rfl, HX⟩
          | true =>
            cases h2 : S.ak t with
            | false =>
              rw [h1] at x1 hat
              rw [h2] at x2 hat
              have HX := Lib.hid (HNB.out true (by rw [hat]; rfl))
              clear hat h1 h2
              go_wp2
              go_roundg (S.gn - (t + 1))
              case measure => omega
              case rel => exact ⟨t + 1, true, rfl, by simp, by omega, Nat.le_refl _, rfl, Lib.hid ⟨fun _ => HX.out.1 trivial, fun _ => rfl⟩⟩
            | true =>
              rw [h1] at x1 hat
              rw [h2] at x2 hat
              have HX := Lib.hid (HNB.out false (by rw [hat]; rfl))
              clear hat h1 h2
              go_wp2
              go_roundg (S.gn - (t + 1))
              case measure => omega
              case rel => exact ⟨t + 1, false, rfl, by simp, by omega, Nat.le_refl _, rfl, HX⟩
      · obtain rfl : t = S.gn := by omega
        have htz : ¬ (S.gn : Int) < (S.gn : Int) := by omega
        have hfi := HFI.out b hb.out
        have HEX := Lib.hid (HEN.out wr (by have := HRS.out d; rw [← HD.out] at this; exact this))
        clear hb HC HG HCL HFR HRS HEN HFI HAG
        generalize S.gn = gn at *
        cases b with
        | true =>
          have hnx : nextR S 0 limit = ⟨0, 0, false, false⟩ := by
            rw [HNX.out, if_neg]
            rintro ⟨h1, _⟩
            have := hfi.1 h1
            cases this
          have HQ := Lib.hid (fun d2 (w' : World) (hw : w' = wr.drewN d2) => HQN.out w' (d + d2) (by rw [hw, HD.out, World.drewN_drewN]) hnx)
          clear hfi hnx HNX HQN HQE
          go_wp2
          go_quiet (fail)
          go_wp2
          refine bodyPost_ret (results_tmp4 rfl _ _ _) rfl ?_
          exact HQ.out _ _ rfl
        | false =>
          by_cases hgn : gn = n
          · subst hgn
            cases hen : endO S with
            | false =>
              have hnx : nextR S 0 limit = ⟨0, 0, false, false⟩ := by
                rw [HNX.out, if_neg]
                rintro ⟨_, _, h1⟩
                rw [hen] at h1
                cases h1
              rw [hen] at HEX
              have HQ := Lib.hid (fun d2 (w' : World) (hw : w' = wr.drewN d2) => HQN.out w' (d + d2) (by rw [hw, HD.out, World.drewN_drewN]) hnx)
              clear hfi hnx HNX HQN HQE hen
              go_wp2
              go_quiet ((go_at_call 61; (with_reducible exact HEX.out _)))
              go_wp2
              refine bodyPost_ret (results_tmp4 rfl _ _ _) rfl ?_
              exact HQ.out _ _ rfl
            | true =>
              have hnx : nextR S 0 limit = ⟨gn, 0, true, true⟩ := by
                rw [HNX.out, if_pos ⟨hfi.2 rfl, rfl, hen⟩]
              rw [hen] at HEX
              have HQ := Lib.hid (fun d2 (w' : World) (hw : w' = wr.drewN d2) => HQE.out w' (d + d2) (by rw [hw, HD.out, World.drewN_drewN]) hnx)
              clear hfi hnx HNX HQN HQE hen
              go_wp2
              go_quiet ((go_at_call 61; (with_reducible exact HEX.out _)))
              generalize hX : World.drewN wr _ = X
              obtain ⟨y1, y2, y3, y4, y5, y6, y7⟩ := HQ.out _ X hX.symm
              have HY := Lib.hid y1
              clear y1 hX
              go_wp2
              refine bodyPost_ret (results_tmp4 rfl _ _ _) rfl ?_
              exact HY.out
          · have hgz : ¬ (gn : Int) = (n : Int) := by omega
            have hnx : nextR S 0 limit = ⟨0, 0, false, false⟩ := by
              rw [HNX.out, if_neg]
              rintro ⟨_, h1, _⟩
              exact hgn h1
            have HQ := Lib.hid (fun d2 (w' : World) (hw : w' = wr.drewN d2) => HQN.out w' (d + d2) (by rw [hw, HD.out, World.drewN_drewN]) hnx)
            clear hfi hnx HNX HQN HQE
            go_wp2
            go_quiet (fail)
            go_wp2
            refine bodyPost_ret (results_tmp4 rfl _ _ _) rfl ?_
            exact HQ.out _ _ rfl
  · have hmn : ¬ most < 0 := by omega
    rw [if_neg hmn] at hMz
    subst hMz
    go_enter Tryz.func47, Tryz.ntmps47
    go_wp2_with (go_at_call 60; (with_reducible refine HFR.out.mono ?_); rintro ez w1 ⟨rfl, d, hd⟩; obtain ⟨k0, k1, k2, k3⟩ := HCL.out w1 d hd; have HD := Lib.hid hd; clear hd)
    go_loopg [12, 13] S.gn (fun kx s12 s13 wr => ∃ (t : Nat) (b : Bool), s12 = .bool b ∧ s13 = .int .i64 t ∧ t ≤ S.gn ∧ S.gn - t ≤ kx ∧ wr = w1 ∧ Hid (b = true ↔ ∃ j, j < t ∧ S.ag j = true))
    case atStart => exact ⟨0, false, rfl, rfl, Nat.zero_le _, by omega, rfl, Lib.hid (by simp)⟩
    case round =>
      obtain ⟨t, b, rfl, rfl, htg, hkx, rfl, hb⟩ := hrel
      rcases Nat.lt_or_ge t S.gn with ht | ht
      · have htz : (t : Int) < (S.gn : Int) := by omega
        have htn : (t : Int) < (n : Int) := by omega
        obtain ⟨g1, hA1, x1⟩ := HG.out t ht
        obtain ⟨g2, hA2, x2⟩ := HC.out t ht
        subst hA1
        subst hA2
        have x1 := x1 d
        have x2 := x2 d
        rw [← HD.out] at x1 x2
        have hat := HAG.out t
        have HNB : Hid (∀ b2 : Bool, b2 = (b || S.ag t) → (b2 = true ↔ ∃ j, j < t + 1 ∧ S.ag j = true)) := Lib.hid (fun b2 h2 => by
          rw [h2, Bool.or_eq_true, hb.out]
          constructor
          · rintro (⟨j, h1, h3⟩ | h1)
            · exact ⟨j, by omega, h3⟩
            · exact ⟨t, by omega, h1⟩
          · rintro ⟨j, h1, h3⟩
            rcases Nat.lt_or_ge j t with h4 | h4
            · exact .inl ⟨j, h4, h3⟩
            · obtain rfl : j = t := by omega
              exact .inr h3)
        clear hb
        cases b with
        | true =>
          have HX := Lib.hid (HNB.out true (by simp))
          clear hat
          go_wp2
          go_roundg (S.gn - (t + 1))
          case measure => omega
          case rel => exact ⟨t + 1, true, rfl, by simp, by omega, Nat.le_refl _, rfl, Lib.hid ⟨fun _ => HX.out.1 trivial, fun _ => rfl⟩⟩
        | false =>
          cases h1 : aw t with
          | false =>
            rw [h1] at x1 hat
            have HX := Lib.hid (HNB.out false (by rw [hat]; rfl))
            clear hat h1
            go_wp2
            go_roundg (S.gn - (t + 1))
            case measure => omega
            case rel => exact ⟨t + 1, false, rfl, by simp, by omega, Nat.le_refl _, rfl, HX⟩
          | true =>
            cases h2 : S.ak t with
            | false =>
              rw [h1] at x1 hat
              rw [h2] at x2 hat
              have HX := Lib.hid (HNB.out true (by rw [hat]; rfl))
              clear hat h1 h2
              go_wp2
              go_roundg (S.gn - (t + 1))
              case measure => omega
              case rel => exact ⟨t + 1, true, rfl, by simp, by omega, Nat.le_refl _, rfl, Lib.hid ⟨fun _ => HX.out.1 trivial, fun _ => rfl⟩⟩
            | true =>
              rw [h1] at x1 hat
              rw [h2] at x2 hat
              have HX := Lib.hid (HNB.out false (by rw [hat]; rfl))
              clear hat h1 h2
              go_wp2
              go_roundg (S.gn - (t + 1))
              case measure => omega
              case rel => exact ⟨t + 1, false, rfl, by simp, by omega, Nat.le_refl _, rfl, HX⟩
      · obtain rfl : t = S.gn := by omega
        have htz : ¬ (S.gn : Int) < (S.gn : Int) := by omega
        have hfi := HFI.out b hb.out
        have HEX := Lib.hid (HEN.out wr (by have := HRS.out d; rw [← HD.out] at this; exact this))
        clear hb HC HG HCL HFR HRS HEN HFI HAG
        generalize S.gn = gn at *
        cases b with
        | true =>
          have hnx : nextR S M limit = ⟨0, 0, false, false⟩ := by
            rw [HNX.out, if_neg]
            rintro ⟨h1, _⟩
            have := hfi.1 h1
            cases this
          have HQ := Lib.hid (fun d2 (w' : World) (hw : w' = wr.drewN d2) => HQN.out w' (d + d2) (by rw [hw, HD.out, World.drewN_drewN]) hnx)
          clear hfi hnx HNX HQN HQE
          go_wp2
          go_quiet (fail)
          go_wp2
          refine bodyPost_ret (results_tmp4 rfl _ _ _) rfl ?_
          exact HQ.out _ _ rfl
        | false =>
          by_cases hgn : gn = n
          · subst hgn
            cases hen : endO S with
            | false =>
              have hnx : nextR S M limit = ⟨0, 0, false, false⟩ := by
                rw [HNX.out, if_neg]
                rintro ⟨_, _, h1⟩
                rw [hen] at h1
                cases h1
              rw [hen] at HEX
              have HQ := Lib.hid (fun d2 (w' : World) (hw : w' = wr.drewN d2) => HQN.out w' (d + d2) (by rw [hw, HD.out, World.drewN_drewN]) hnx)
              clear hfi hnx HNX HQN HQE hen
              go_wp2
              go_quiet ((go_at_call 61; (with_reducible exact HEX.out _)))
              go_wp2
              refine bodyPost_ret (results_tmp4 rfl _ _ _) rfl ?_
              exact HQ.out _ _ rfl
            | true =>
              have hnx : nextR S M limit = ⟨gn, 0, true, true⟩ := by
                rw [HNX.out, if_pos ⟨hfi.2 rfl, rfl, hen⟩]
              rw [hen] at HEX
              have HQ := Lib.hid (fun d2 (w' : World) (hw : w' = wr.drewN d2) => HQE.out w' (d + d2) (by rw [hw, HD.out, World.drewN_drewN]) hnx)
              clear hfi hnx HNX HQN HQE hen
              go_wp2
              go_quiet ((go_at_call 61; (with_reducible exact HEX.out _)))
              generalize hX : World.drewN wr _ = X
              obtain ⟨y1, y2, y3, y4, y5, y6, y7⟩ := HQ.out _ X hX.symm
              have HY := Lib.hid y1
              clear y1 hX
              go_wp2
              refine bodyPost_ret (results_tmp4 rfl _ _ _) rfl ?_
              exact HY.out
          · have hgz : ¬ (gn : Int) = (n : Int) := by omega
            have hnx : nextR S M limit = ⟨0, 0, false, false⟩ := by
              rw [HNX.out, if_neg]
              rintro ⟨_, h1, _⟩
              exact hgn h1
            have HQ := Lib.hid (fun d2 (w' : World) (hw : w' = wr.drewN d2) => HQN.out w' (d + d2) (by rw [hw, HD.out, World.drewN_drewN]) hnx)
            clear hfi hnx HNX HQN HQE
            go_wp2
            go_quiet (fail)
            go_wp2
            refine bodyPost_ret (results_tmp4 rfl _ _ _) rfl ?_
            exact HQ.out _ _ rfl
end
end
section
set_option linter.unusedVariables false
set_option linter.unusedSimpArgs false
open Go.RowKit
/-- What the document's Next keeps: flags from i on, below j, are put out. -/
structure Nr (w W : World) (base q o : Nat) (T : TypeId) (L : List Value) (vb va vg : Value) (C : List Bool) (aw : Nat → Bool) (S : OS) (i j gn : Nat) (fi : Bool) : Prop where
  r : ∃ L1, Rr W base q o T L1 vb va vg S.bs C (tabB (fun x => aw x && !(decide (i ≤ x) && decide (x < j))) S.bs.length) gn S.ov (S.en || fi) S.ea (S.el && !fi) ∧ Samo o L L1
  k : Kept (fun x => x = q ∨ vg.ownBlock = some x) w W
section
variable {w W : World} {base q o : Nat} {T : TypeId} {L : List Value} {O : Nat → Prop} {S : OS} {vb va vg : Value} {C : List Bool} {aw : Nat → Bool} {i j gn : Nat} {fi : Bool}
theorem Nr.drewN (h : Nr w W base q o T L vb va vg C aw S i j gn fi) (n : Nat) : Nr w (W.drewN n) base q o T L vb va vg C aw S i j gn fi := by
  obtain ⟨L1, h1, h2⟩ := h.r
  exact ⟨⟨L1, h1.drewN n, h2⟩, h.k.drewN n⟩
theorem Nr.below {W' : World} (h : Nr w W base q o T L vb va vg C aw S i j gn fi) (k : Below W.heap.size W W') : Nr w W' base q o T L vb va vg C aw S i j gn fi := by
  obtain ⟨L1, h1, h2⟩ := h.r
  exact ⟨⟨L1, h1.below k, h2⟩, h.k.trans (Kept.of_below k _)⟩
theorem Nr.gone (h : Nr w W base q o T L vb va vg C aw S i j gn fi) (x : Nat) : Nr w (W.setCell ⟨q, o + 3, none⟩ (.int .i64 x)) base q o T L vb va vg C aw S i j x fi := by
  obtain ⟨L1, h1, h2⟩ := h.r
  exact ⟨⟨_, h1.top 3 (.int .i64 x) rfl (by omega), h2.set (by omega) _⟩, h.k.setCell (p := ⟨q, o + 3, none⟩) (.inl (.inl rfl)) _⟩
theorem Nr.cells (h : Nr w W base q o T L vb va vg C aw S i j gn fi) : W.cell? ⟨q, o, none⟩ = some vb ∧ W.cell? ⟨q, o + 2, none⟩ = some vg ∧ W.cell? ⟨q, o + 3, none⟩ = some (.int .i64 gn) ∧ W.frozen? ⟨q, o + 3, none⟩ = false := by
  obtain ⟨L1, h1, _⟩ := h.r
  exact ⟨h1.c0, h1.cell 2 rfl, h1.cell 3 rfl, h1.at_.frozen _⟩
theorem Nr.out {n cg : Nat} {Ag : Option Addr} (h : Nr w W base q o T L vb va (.slice Ag n cg) C aw S i j gn fi) (hij : i ≤ j) (hj : j < S.bs.length) : ∃ g b, Ag = some ⟨g, 0, none⟩ ∧ W.cell? ⟨g, j, none⟩ = some (.bool b) ∧ W.frozen? ⟨g, j, none⟩ = false ∧ Hid (Nr w (W.setCell ⟨g, j, none⟩ (.bool false)) base q o T L vb va (.slice Ag n cg) C aw S i (j + 1) gn fi) := by
  obtain ⟨L1, h1, h2⟩ := h.r
  obtain ⟨g, e1, e2, e3, e4⟩ := owb_get h1.og (i := j) (tabB_get _ _ _ hj)
  obtain ⟨h5, h6⟩ := e4 false
  have e : (tabB (fun x => aw x && !(decide (i ≤ x) && decide (x < j))) S.bs.length).set j false = tabB (fun x => aw x && !(decide (i ≤ x) && decide (x < j + 1))) S.bs.length := by
    rw [tabB_set]
    refine tabB_congr fun x _ => ?_
    by_cases hx : x = j
    · subst hx
      rw [if_pos rfl]
      have h1 : decide (i ≤ x) = true := by simpa using hij
      have h2 : decide (x < x + 1) = true := by simp
      rw [h1, h2]
      simp
    · rw [if_neg hx]
      have : decide (x < j + 1) = decide (x < j) := by rw [decide_eq_decide]; omega
      rw [this]
  rw [e] at h5
  exact ⟨g, _, e1, e2, e3, Lib.hid ⟨⟨L1, h1.agains h5 h6, h2⟩, h.k.trans' h6 fun x hx => .inl (.inr hx)⟩⟩
/-- The end. -/
theorem Nr.fin (h : Nr w W base q o T L vb va vg C aw S i j (max S.gn j) fi) (hij : i < j) {A : List Bool} (hfc : C = tabB S.ak S.bs.length) (hfa : A = tabB aw S.bs.length) (hag : ∀ j, S.ag j = (aw j && !S.ak j)) (haw : ∀ j, aw j = true → j < S.gn) (hvg : L[o + 2]? = some vg) :
    ∃ L' O', Rs W base q o T L' O' (sentO S i (j - i) fi) ∧ Samo o L L' ∧ Kept (rgO q o L) w W ∧ ∀ x, O' x → rqO q vb va vg x ∨ w.heap.size ≤ x := by
  obtain ⟨L1, h1, h2⟩ := h.r
  have hrf := Rf.sent hfc hfa hag haw i (j - i) fi
  rw [show i + (j - i) = j by omega] at hrf
  refine ⟨L1, _, ⟨_, _, _, _, _, rfl, ?_, hrf⟩, h2, h.k.mono fun x hx => .inl (hx.imp id fun e => ⟨vg, hvg, e⟩), fun x hx => .inl hx⟩
  have hgn : (sentO S i (j - i) fi).gn = max S.gn j := by
    show max S.gn (if j - i = 0 then 0 else i + (j - i)) = _
    rw [if_neg (by omega), show i + (j - i) = j by omega]
  rw [hgn]
  exact h1
set_option maxHeartbeats 16000000 in
set_option maxRecDepth 100000 in
theorem rnext_b (h : Rs w base q o T L O S) (hok : S.ok) (hb : base ≤ w.heap.size) (hL : S.bs.length ≤ 1000000) (most : Int) (hm : -9223372036854775808 ≤ most ∧ most < 4611686018427387904) (limit : Nat) (hl : limit < 18446744073709551616) (i k : Nat) (hf : fromO S most.toNat limit = (i, k)) (hik : i < k) (hk : k ≤ S.bs.length) :
    Calls Tryz.prog 47 #[.pointer (some ⟨q, o, none⟩), .int .i64 most, .int .u64 limit] w (RNPost base q o T L O S most.toNat limit w) := by
  obtain ⟨M, hM⟩ : ∃ M, M = most.toNat := ⟨_, rfl⟩
  rw [← hM] at hf ⊢
  have hMz : most < 0 ∧ M = 0 ∨ 0 ≤ most ∧ most = (M : Int) := by omega
  have HFR := Lib.hid (rfrom_any h hok hL M limit (by omega) hl)
  rw [hf] at HFR
  unfold dfrV at HFR
  simp only at HFR
  have HEN := Lib.hid (fun d => rend_any (h.drewN d))
  have hgl := hok.gl
  have HNX : nextR S M limit = ⟨i, k - i, decide (k = S.bs.length) && endO S, true⟩ := by
    unfold nextR
    rw [hf]
    dsimp only
    rw [if_neg (by omega)]
  obtain ⟨Ab, cb, Aa, ca, Ag, cg, C, A, hO, hr, hrf, l1, l2⟩ := h.open_
  subst hO
  obtain ⟨hfc, aw, hfa, hag, haw⟩ := hrf
  have hbl := hr.lt
  have hvg := hr.cl 2 _ rfl
  have HPO : Hid (∀ (fi : Bool) (X W' : World) (v : Value), fi = (decide (k = S.bs.length) && endO S) → Nr w X base q o T L (.slice Ab S.bs.length cb) (.slice Aa S.bs.length ca) (.slice Ag S.bs.length cg) C aw S i k (max S.gn k) fi → Below X.heap.size X W' → Own W' X.heap.size 5 v ((S.bs.drop i).take (k - i)) →
      RNPost base q o T L (rqO q (.slice Ab S.bs.length cb) (.slice Aa S.bs.length ca) (.slice Ag S.bs.length cg)) S M limit w (.returned (.tuple #[.int .u64 i, v, .bool fi, .bool true])) W') := Lib.hid (fun fi X W' v hfi hn hB hv => by
    refine ⟨v, by rw [HNX, ← hfi], ?_, ?_⟩
    · rw [HNX]
      exact hv.base_ hn.k.size
    · rw [nextO_eq (fin := fi) (by rw [HNX, ← hfi])]
      exact (hn.below hB).fin hik hfc hfa hag haw hvg)
  have HN0 : Hid (∀ d, Nr w (w.drewN d) base q o T L (.slice Ab S.bs.length cb) (.slice Aa S.bs.length ca) (.slice Ag S.bs.length cg) C aw S i i S.gn false) := Lib.hid (fun d => by
    refine ⟨⟨L, ?_, Samo.refl _ _⟩, (Kept.refl _ _).drewN d⟩
    have e : tabB (fun x => aw x && !(decide (i ≤ x) && decide (x < i))) S.bs.length = A := by
      rw [hfa]
      refine tabB_congr fun x _ => ?_
      have : (decide (i ≤ x) && decide (x < i)) = false := by simp
      rw [this]
      simp
    rw [e, Bool.or_false, Bool.not_false, Bool.and_true]
    exact hr.drewN d)
  have HN1 : Hid (∀ d, Nr w (((w.drewN d).setCell ⟨q, o + 5, none⟩ (.bool true)).setCell ⟨q, o + 7, none⟩ (.bool false)) base q o T L (.slice Ab S.bs.length cb) (.slice Aa S.bs.length ca) (.slice Ag S.bs.length cg) C aw S i i S.gn true) := Lib.hid (fun d => by
    have h5 := (hr.drewN d).top 5 (.bool true) (gn' := S.gn) (ov' := S.ov) (en' := true) (ea' := S.ea) (el' := S.el) rfl (by omega)
    have h7 := h5.top 7 (.bool false) (gn' := S.gn) (ov' := S.ov) (en' := true) (ea' := S.ea) (el' := false) rfl (by omega)
    refine ⟨⟨_, ?_, ((Samo.refl o L).set (i := 5) (by omega) (.bool true)).set (i := 7) (by omega) (.bool false)⟩, (((Kept.refl _ w).drewN d).setCell (p := ⟨q, o + 5, none⟩) (.inl (.inl rfl)) _).setCell (p := ⟨q, o + 7, none⟩) (.inl (.inl rfl)) _⟩
    have e : tabB (fun x => aw x && !(decide (i ≤ x) && decide (x < i))) S.bs.length = A := by
      rw [hfa]
      refine tabB_congr fun x _ => ?_
      have : (decide (i ≤ x) && decide (x < i)) = false := by simp
      rw [this]
      simp
    rw [e, Bool.or_true, Bool.not_true, Bool.and_false]
    exact h7)
  have HCF : Hid (∀ d, (w.drewN d).cell? ⟨q, o + 5, none⟩ = some (.bool S.en) ∧ (w.drewN d).frozen? ⟨q, o + 5, none⟩ = false ∧ ((w.drewN d).setCell ⟨q, o + 5, none⟩ (.bool true)).cell? ⟨q, o + 7, none⟩ = some (.bool S.el) ∧ ((w.drewN d).setCell ⟨q, o + 5, none⟩ (.bool true)).frozen? ⟨q, o + 7, none⟩ = false ∧ (w.drewN d).cell? ⟨q, o, none⟩ = some (.slice Ab S.bs.length cb)) := Lib.hid (fun d => by
    have h5 := (hr.drewN d).top 5 (.bool true) (gn' := S.gn) (ov' := S.ov) (en' := true) (ea' := S.ea) (el' := S.el) rfl (by omega)
    exact ⟨(hr.drewN d).cell 5 rfl, (hr.drewN d).at_.frozen _, h5.cell 7 rfl, h5.at_.frozen _, (hr.drewN d).c0⟩)
  obtain ⟨K, hK⟩ : ∃ K, K = k - i := ⟨_, rfl⟩
  obtain ⟨Xs, hXs⟩ : ∃ Xs, Xs = (S.bs.drop i).take (k - i) := ⟨_, rfl⟩
  have HSRC : Hid (∀ W j gn fi, Nr w W base q o T L (.slice Ab S.bs.length cb) (.slice Aa S.bs.length ca) (.slice Ag S.bs.length cg) C aw S i j gn fi → ∀ W', Below W.heap.size W W' → Rd W' W.heap.size (cutA Ab cb i) (k - i) Xs) := Lib.hid (fun W j gn fi hn W' hB => by
    obtain ⟨L1, h1, _⟩ := hn.r
    obtain ⟨A', c', e1, _, _, hr⟩ := h1.ob.open_
    injection e1 with e1 _ e3
    subst e1; subst e3
    have h2 := (hr.cutTo (m := k) hk).cutFrom (c := cb) (k := i) (by omega) (by
      obtain ⟨A2, c2, e2, h3, _⟩ := h1.ob.open_
      injection e2 with _ _ e4
      omega)
    rw [List.drop_take] at h2
    rw [hXs]
    exact h2.below hB)
  have hcb : S.bs.length ≤ cb := by
    obtain ⟨A2, c2, e2, h3, _⟩ := hr.ob.open_
    injection e2 with _ _ e4
    omega
  have hcbm : cb ≤ 9223372036854775807 := by
    obtain ⟨A2, c2, e2, h3, h4, _⟩ := hr.ob.open_
    injection e2 with _ _ e4
    unfold maxLen at h4
    omega
  have hXl : Xs.length = k - i := by rw [hXs, List.length_take, List.length_drop]; omega
  have hXb : Byt Xs := by rw [hXs]; exact (hr.ob.2.drop i).take _
  rw [← hXs] at HPO
  rw [← hK] at HSRC hXl
  have zik : (i : Int) ≤ (k : Int) := by omega
  have zkc : (k : Int) ≤ (cb : Int) := by omega
  have hne : ¬ (i : Int) = (k : Int) := by omega
  have hib : i ≤ 1000000 := by omega
  have hkb : k ≤ 1000000 := by omega
  have hgb : S.gn ≤ 1000000 := by omega
  have wi : IntKind.u64.wrap (i : Int) = (i : Int) := by rw [IntKind.wrap_u64]; omega
  obtain ⟨UA, hUA⟩ : ∃ UA, Option.map (fun x => x.add i) Ab = UA := ⟨_, rfl⟩
  have e1 : cutA Ab cb i = UA := (if_neg (by omega)).trans hUA
  rw [e1] at HSRC
  obtain ⟨gx, hgx⟩ : ∃ gx, gx = max S.gn k := ⟨_, rfl⟩
  have HGX : Hid ((if S.gn < k then (k : Int) else (S.gn : Int)) = (gx : Int)) := Lib.hid (by split <;> omega)
  rw [← hgx] at HPO
  have HKN := Lib.hid hk
  have HIK := Lib.hid hik
  have HKK := Lib.hid hK
  have HXL := Lib.hid hXl
  have HXB := Lib.hid hXb
  have mixed : Tryz.prog.follows .mixedOrders = true := by kernel_rfl
  have hbw := Lib.hid hb
  clear hr hfc hfa hag haw hvg h hok hM hf HNX e1 hgx hXs hXl hXb hK hb hbl hgl l1 l2
  have hUA' := Lib.hid hUA
  clear hUA
  rcases hMz with ⟨hmz, hM0⟩ | ⟨hmz, hM1⟩
  · subst hM0
    have HFR : Hid (Calls Tryz.prog 60 #[.pointer (some ⟨q, o, none⟩), .int .i64 0, .int .u64 limit] w fun e w' => e = .returned (.tuple #[.int .i64 i, .int .i64 k]) ∧ ∃ d, w' = w.drewN d) := HFR
    go_enter Tryz.func47, Tryz.ntmps47
    go_upto_region 12 with (go_at_call 60; (with_reducible refine HFR.out.mono ?_); rintro ez w1 ⟨rfl, d, hd⟩; obtain ⟨y5, yf5, y7, yf7, y0⟩ := HCF.out d; rw [← hd] at y5 yf5 y7 yf7 y0; have HEX := Lib.hid (HEN.out d); rw [← hd] at HEX; have HD := Lib.hid hd; clear hd)
    obtain ⟨fi, hfi⟩ : ∃ fi, fi = (decide (k = S.bs.length) && endO S) := ⟨_, rfl⟩
    have HFI := Lib.hid hfi
    clear hfi
    rw [show ((i : Int) == (k : Int)) = false by simpa using hne]
    go_cut [14] from 85 to 95 (fun s14 wx => s14 = .bool fi ∧ wx = w1)
    case first =>
      by_cases hkl : k = S.bs.length
      · have hklz : (S.bs.length : Int) = (k : Int) := by omega
        have hfe : fi = endO S := by rw [HFI.out, hkl]; simp
        rw [← hfe] at HEX
        have HFE := Lib.hid hfe
        clear hfe hkl
        go_wp2_with (go_at_call 61; (with_reducible refine HEX.out.mono ?_); rintro ez w3 ⟨rfl, hw3⟩; rw [hw3]; clear hw3)
        go_meet
        exact ⟨rfl, rfl⟩
      · have hklz : ¬ (k : Int) = (S.bs.length : Int) := by omega
        have hfe : fi = false := by rw [HFI.out]; simp [hkl]
        have HFE := Lib.hid hfe
        clear hfe hkl
        go_wp2_with fail
        go_meet
        exact ⟨by rw [HFE.out], rfl⟩
    case rest =>
      obtain ⟨rfl, hwc⟩ := hcut
      subst hwc
      go_upto_if 96 with fail
      go_cut [] from 97 to 102 (fun wx => Hid (Nr w wx base q o T L (.slice Ab S.bs.length cb) (.slice Aa S.bs.length ca) (.slice Ag S.bs.length cg) C aw S i i S.gn fi))
      case first =>
        have n0 := HN0.out d
        have n1 := HN1.out d
        rw [← HD.out] at n0 n1
        cases fi
        · have HX := Lib.hid n0
          clear n0 n1
          go_wp2
          go_meet
          exact HX
        · have HX := Lib.hid n1
          clear n0 n1
          go_wp2
          go_meet
          exact HX
      case rest =>
        have HST := hcut
        clear hcut
        clear y5 yf5 y7 yf7 y0 HEX HD HN0 HN1 HCF HEN HFR
        generalize hW2 : wc = W2 at *
        clear hW2
        go_wp2
        go_loopg [15] k (fun kx s15 wr => ∃ j : Nat, s15 = .int .i64 j ∧ i ≤ j ∧ j ≤ k ∧ k - j ≤ kx ∧ Hid (Nr w wr base q o T L (.slice Ab S.bs.length cb) (.slice Aa S.bs.length ca) (.slice Ag S.bs.length cg) C aw S i j S.gn fi))
        case atStart => exact ⟨i, rfl, Nat.le_refl _, by omega, by omega, HST⟩
        case round =>
          clear HST
          obtain ⟨j, rfl, hij, hjk, hkx, hN⟩ := hrel
          obtain ⟨x0, x2, x3, xf3⟩ := hN.out.cells
          rcases Nat.lt_or_ge j k with hj | hj
          · have hjz : (j : Int) < (k : Int) := by omega
            have hjn : (j : Int) < (S.bs.length : Int) := by have := HKN.out; omega
            obtain ⟨g, b, e, z1, z2, HX⟩ := hN.out.out hij (by have := HKN.out; omega)
            subst e
            clear hN
            go_wp2
            go_roundg (k - (j + 1))
            case measure => omega
            case rel => exact ⟨j + 1, by simp, by omega, by omega, Nat.le_refl _, HX⟩
          · obtain rfl : j = k := by omega
            have hjz : ¬ (j : Int) < (j : Int) := by omega
            go_upto_region 19 with fail
            go_cut [] from 115 to 123 (fun wx => Hid (Nr w wx base q o T L (.slice Ab S.bs.length cb) (.slice Aa S.bs.length ca) (.slice Ag S.bs.length cg) C aw S i j gx fi))
            case first =>
              rcases Nat.lt_or_ge S.gn j with hg | hg
              · have hgz : (S.gn : Int) < (j : Int) := by omega
                have HX := Lib.hid (hN.out.gone j)
                have HE := Lib.hid (show gx = j by have := HGX.out; rw [if_pos hg] at this; omega)
                clear hN hg
                go_wp2
                go_meet
                rw [HE.out]
                exact HX
              · have hgz : ¬ (S.gn : Int) < (j : Int) := by omega
                have HX := Lib.hid (hN.out.gone S.gn)
                have HE := Lib.hid (show gx = S.gn by have := HGX.out; rw [if_neg (by omega)] at this; omega)
                clear hN hg
                go_wp2
                go_meet
                rw [HE.out]
                exact HX
            case rest =>
              have HN6 := hcut
              clear hcut hN x0 x2 x3 xf3
              generalize hX6 : wc = Y2 at *
              clear hX6
              have nd := HN6.out
              have hba : Below Y2.heap.size Y2 (Y2.alloc (.cells #[] 5)) := (Below.refl _ _).alloc (Nat.le_refl _) _
              have hown : Ow (Y2.alloc (.cells #[] 5)) Y2.heap.size 5 (.slice (some ⟨Y2.heap.size, 0, none⟩) 0 0) [] := ⟨rfl, .inr ⟨_, 0, _, rfl, Nat.le_refl _, heap_alloc_new Y2 _, Nat.le_refl _, by unfold maxLen; omega, rfl, rfl⟩⟩
              have hs1 : Y2.heap.size ≤ (Y2.alloc (.cells #[] 5)).heap.size := by simp
              have hsrc := rd_src (HSRC.out _ _ _ _ nd _ hba)
              have z0 := (nd.below hba).cells.1
              have HQ20 := Lib.hid (fun (W' : World) (v : Value) (hB : Below Y2.heap.size Y2 W') (hv : Own W' Y2.heap.size 5 v Xs) => HPO.out fi Y2 W' v HFI.out nd hB hv)
              have HA := Lib.hid hba
              clear nd hba HN6
              have hUA := hUA'.out
              have hkk : j - i = K := by have := HKK.out; omega
              have hlen : (Xs.map (Value.int .u8)).length = K := by rw [List.length_map]; exact HXL.out
              have HONE := Lib.hid (oneCell_u8 Xs)
              have HNK := Lib.hid (show ([] : List Value).length + K ≤ 70368744177664 by have := HKK.out; simp; omega)
              go_wp2_with (at_builtin; go_loud (refine wpList_app1 o8 rfl (.tmp 126) (.tmp 133) rfl Y2.heap.size _ [] rfl hown UA K (cb - i) rfl (Xs.map (Value.int .u8)) hlen hsrc HONE.out HNK.out hs1 ?_; intro v5 w5 hown5 hg5 _ _; have H5 := Lib.hid (HQ20.out w5 v5 (HA.out.grown hg5 hs1 (fun x hx => (ow_lt hown x hx).1)) (ow_own (T := 5) (bs := Xs) (by simpa using hown5) HXB.out)); clear hown5 hg5))
              refine bodyPost_ret (results_tmp4 rfl _ _ _) rfl ?_
              exact H5.out
  · subst hM1
    have hmn : ¬ (M : Int) < 0 := by omega
    go_enter Tryz.func47, Tryz.ntmps47
    go_upto_region 12 with (go_at_call 60; (with_reducible refine HFR.out.mono ?_); rintro ez w1 ⟨rfl, d, hd⟩; obtain ⟨y5, yf5, y7, yf7, y0⟩ := HCF.out d; rw [← hd] at y5 yf5 y7 yf7 y0; have HEX := Lib.hid (HEN.out d); rw [← hd] at HEX; have HD := Lib.hid hd; clear hd)
    obtain ⟨fi, hfi⟩ : ∃ fi, fi = (decide (k = S.bs.length) && endO S) := ⟨_, rfl⟩
    have HFI := Lib.hid hfi
    clear hfi
    rw [show ((i : Int) == (k : Int)) = false by simpa using hne]
    go_cut [14] from 85 to 95 (fun s14 wx => s14 = .bool fi ∧ wx = w1)
    case first =>
      by_cases hkl : k = S.bs.length
      · have hklz : (S.bs.length : Int) = (k : Int) := by omega
        have hfe : fi = endO S := by rw [HFI.out, hkl]; simp
        rw [← hfe] at HEX
        have HFE := Lib.hid hfe
        clear hfe hkl
        go_wp2_with (go_at_call 61; (with_reducible refine HEX.out.mono ?_); rintro ez w3 ⟨rfl, hw3⟩; rw [hw3]; clear hw3)
        go_meet
        exact ⟨rfl, rfl⟩
      · have hklz : ¬ (k : Int) = (S.bs.length : Int) := by omega
        have hfe : fi = false := by rw [HFI.out]; simp [hkl]
        have HFE := Lib.hid hfe
        clear hfe hkl
        go_wp2_with fail
        go_meet
        exact ⟨by rw [HFE.out], rfl⟩
    case rest =>
      obtain ⟨rfl, hwc⟩ := hcut
      subst hwc
      go_upto_if 96 with fail
      go_cut [] from 97 to 102 (fun wx => Hid (Nr w wx base q o T L (.slice Ab S.bs.length cb) (.slice Aa S.bs.length ca) (.slice Ag S.bs.length cg) C aw S i i S.gn fi))
      case first =>
        have n0 := HN0.out d
        have n1 := HN1.out d
        rw [← HD.out] at n0 n1
        cases fi
        · have HX := Lib.hid n0
          clear n0 n1
          go_wp2
          go_meet
          exact HX
        · have HX := Lib.hid n1
          clear n0 n1
          go_wp2
          go_meet
          exact HX
      case rest =>
        have HST := hcut
        clear hcut
        clear y5 yf5 y7 yf7 y0 HEX HD HN0 HN1 HCF HEN HFR
        generalize hW2 : wc = W2 at *
        clear hW2
        go_wp2
        go_loopg [15] k (fun kx s15 wr => ∃ j : Nat, s15 = .int .i64 j ∧ i ≤ j ∧ j ≤ k ∧ k - j ≤ kx ∧ Hid (Nr w wr base q o T L (.slice Ab S.bs.length cb) (.slice Aa S.bs.length ca) (.slice Ag S.bs.length cg) C aw S i j S.gn fi))
        case atStart => exact ⟨i, rfl, Nat.le_refl _, by omega, by omega, HST⟩
        case round =>
          clear HST
          obtain ⟨j, rfl, hij, hjk, hkx, hN⟩ := hrel
          obtain ⟨x0, x2, x3, xf3⟩ := hN.out.cells
          rcases Nat.lt_or_ge j k with hj | hj
          · have hjz : (j : Int) < (k : Int) := by omega
            have hjn : (j : Int) < (S.bs.length : Int) := by have := HKN.out; omega
            obtain ⟨g, b, e, z1, z2, HX⟩ := hN.out.out hij (by have := HKN.out; omega)
            subst e
            clear hN
            go_wp2
            go_roundg (k - (j + 1))
            case measure => omega
            case rel => exact ⟨j + 1, by simp, by omega, by omega, Nat.le_refl _, HX⟩
          · obtain rfl : j = k := by omega
            have hjz : ¬ (j : Int) < (j : Int) := by omega
            go_upto_region 19 with fail
            go_cut [] from 115 to 123 (fun wx => Hid (Nr w wx base q o T L (.slice Ab S.bs.length cb) (.slice Aa S.bs.length ca) (.slice Ag S.bs.length cg) C aw S i j gx fi))
            case first =>
              rcases Nat.lt_or_ge S.gn j with hg | hg
              · have hgz : (S.gn : Int) < (j : Int) := by omega
                have HX := Lib.hid (hN.out.gone j)
                have HE := Lib.hid (show gx = j by have := HGX.out; rw [if_pos hg] at this; omega)
                clear hN hg
                go_wp2
                go_meet
                rw [HE.out]
                exact HX
              · have hgz : ¬ (S.gn : Int) < (j : Int) := by omega
                have HX := Lib.hid (hN.out.gone S.gn)
                have HE := Lib.hid (show gx = S.gn by have := HGX.out; rw [if_neg (by omega)] at this; omega)
                clear hN hg
                go_wp2
                go_meet
                rw [HE.out]
                exact HX
            case rest =>
              have HN6 := hcut
              clear hcut hN x0 x2 x3 xf3
              generalize hX6 : wc = Y2 at *
              clear hX6
              have nd := HN6.out
              have hba : Below Y2.heap.size Y2 (Y2.alloc (.cells #[] 5)) := (Below.refl _ _).alloc (Nat.le_refl _) _
              have hown : Ow (Y2.alloc (.cells #[] 5)) Y2.heap.size 5 (.slice (some ⟨Y2.heap.size, 0, none⟩) 0 0) [] := ⟨rfl, .inr ⟨_, 0, _, rfl, Nat.le_refl _, heap_alloc_new Y2 _, Nat.le_refl _, by unfold maxLen; omega, rfl, rfl⟩⟩
              have hs1 : Y2.heap.size ≤ (Y2.alloc (.cells #[] 5)).heap.size := by simp
              have hsrc := rd_src (HSRC.out _ _ _ _ nd _ hba)
              have z0 := (nd.below hba).cells.1
              have HQ20 := Lib.hid (fun (W' : World) (v : Value) (hB : Below Y2.heap.size Y2 W') (hv : Own W' Y2.heap.size 5 v Xs) => HPO.out fi Y2 W' v HFI.out nd hB hv)
              have HA := Lib.hid hba
              clear nd hba HN6
              have hUA := hUA'.out
              have hkk : j - i = K := by have := HKK.out; omega
              have hlen : (Xs.map (Value.int .u8)).length = K := by rw [List.length_map]; exact HXL.out
              have HONE := Lib.hid (oneCell_u8 Xs)
              have HNK := Lib.hid (show ([] : List Value).length + K ≤ 70368744177664 by have := HKK.out; simp; omega)
              go_wp2_with (at_builtin; go_loud (refine wpList_app1 o8 rfl (.tmp 126) (.tmp 133) rfl Y2.heap.size _ [] rfl hown UA K (cb - i) rfl (Xs.map (Value.int .u8)) hlen hsrc HONE.out HNK.out hs1 ?_; intro v5 w5 hown5 hg5 _ _; have H5 := Lib.hid (HQ20.out w5 v5 (HA.out.grown hg5 hs1 (fun x hx => (ow_lt hown x hx).1)) (ow_own (T := 5) (bs := Xs) (by simpa using hown5) HXB.out)); clear hown5 hg5))
              refine bodyPost_ret (results_tmp4 rfl _ _ _) rfl ?_
              exact H5.out
end
end
end Go.Proofs.YtbejpafephofaaaGreat
