/-
  The document's buffer: Turn (Acked, Lost).
-/
import Derived.Test.YtoakahofiodbhaaDu
namespace Go.Proofs.Ytoakahofiodbhaa
set_option linter.unusedVariables false
set_option linter.unusedSimpArgs false
open Go.RowKit
theorem inT_lt {S : OS} {off n j : Nat} (h : S.gn ≤ j) : inT S off n j = false := by
  unfold inT
  have : ¬ j < S.gn := by omega
  simp [this]
/-- What stood up to i of a row of flags, what is turned before i. -/
def turnF (f : Nat → Bool) (S : OS) (off n i : Nat) : Nat → Bool := fun j => f j || (decide (j < i) && inT S off n j)
theorem turnF_0 (f : Nat → Bool) (S : OS) (off n : Nat) : turnF f S off n 0 = f := by
  funext j
  unfold turnF
  simp
theorem turnF_end (f : Nat → Bool) (S : OS) (off n : Nat) : turnF f S off n S.gn = fun j => f j || inT S off n j := by
  funext j
  unfold turnF
  by_cases h : j < S.gn
  · simp [h]
  · rw [inT_lt (by omega : S.gn ≤ j)]
    simp
theorem turnF_no (f : Nat → Bool) (S : OS) (off n i : Nat) (h : inT S off n i = false) : turnF f S off n (i + 1) = turnF f S off n i := by
  funext j
  unfold turnF
  by_cases e : j = i
  · subst e
    rw [h]
    simp
  · have : decide (j < i + 1) = decide (j < i) := by rw [decide_eq_decide]; omega
    rw [this]
theorem turnF_yes (f : Nat → Bool) (S : OS) (off n i len : Nat) (h : inT S off n i = true) : (tabB (turnF f S off n i) len).set i true = tabB (turnF f S off n (i + 1)) len := by
  rw [tabB_set]
  refine tabB_congr fun j _ => ?_
  unfold turnF
  by_cases e : j = i
  · subst e
    rw [if_pos rfl, h]
    simp
  · have : decide (j < i + 1) = decide (j < i) := by rw [decide_eq_decide]; omega
    rw [if_neg e, this]
section
variable {w : World} {base q o : Nat} {T : TypeId} {L : List Value} {O : Nat → Prop} {S : OS}
/-- acked: behind i rounds. -/
structure Ta (w wr : World) (base q o : Nat) (T : TypeId) (L : List Value) (vb va vg : Value) (C A : List Bool) (aw : Nat → Bool) (S : OS) (off N i : Nat) : Prop where
  r : Rr wr base q o T L vb va vg S.bs (tabB (turnF S.ak S off N i) S.bs.length) A S.gn S.ov S.en S.ea S.el
  k : Kept (rqO q vb va vg) w wr
set_option maxHeartbeats 8000000 in
set_option maxRecDepth 100000 in
theorem rturn_acked (h : Rs w base q o T L O S) (hok : S.ok) (hL : S.bs.length ≤ 1000000) (off : Nat) (ho : off < 18446744073709551616) (n : Int) (hn : -9223372036854775808 ≤ n ∧ n < 9223372036854775808) (fin : Bool) :
    Calls Try.prog 24 #[.pointer (some ⟨q, o, none⟩), .int .u64 off, .int .i64 n, .bool fin, .bool true] w (RsPost (.tuple #[]) base q o T L O (ackO S off n.toNat fin) w) := by
  obtain ⟨Ab, cb, Aa, ca, Ag, cg, C, A, rfl, hr, hf, l1, l2⟩ := h.open_
  obtain ⟨hfc, aw, hfa, hag, haw⟩ := hf
  have hgl := hok.gl
  have HT0 : Hid (Ta w w base q o T L (.slice Ab S.bs.length cb) (.slice Aa S.bs.length ca) (.slice Ag S.bs.length cg) C A aw S off n.toNat 0) := Lib.hid ⟨by rw [turnF_0, ← hfc]; exact hr, Kept.refl _ _⟩
  have HC : Hid (∀ wr i, Ta w wr base q o T L (.slice Ab S.bs.length cb) (.slice Aa S.bs.length ca) (.slice Ag S.bs.length cg) C A aw S off n.toNat i → wr.cell? ⟨q, o + 3, none⟩ = some (.int .i64 S.gn) ∧ wr.cell? ⟨q, o + 1, none⟩ = some (.slice Aa S.bs.length ca) ∧ wr.cell? ⟨q, o + 5, none⟩ = some (.bool S.en)) := Lib.hid (fun wr i h => ⟨h.r.cell 3 rfl, h.r.cell 1 rfl, h.r.cell 5 rfl⟩)
  have HNO : Hid (∀ wr i, Ta w wr base q o T L (.slice Ab S.bs.length cb) (.slice Aa S.bs.length ca) (.slice Ag S.bs.length cg) C A aw S off n.toNat i → inT S off n.toNat i = false → Ta w wr base q o T L (.slice Ab S.bs.length cb) (.slice Aa S.bs.length ca) (.slice Ag S.bs.length cg) C A aw S off n.toNat (i + 1)) := Lib.hid (fun wr i h hno => ⟨by rw [turnF_no _ _ _ _ _ hno]; exact h.r, h.k⟩)
  have HYES : Hid (∀ wr i, Ta w wr base q o T L (.slice Ab S.bs.length cb) (.slice Aa S.bs.length ca) (.slice Ag S.bs.length cg) C A aw S off n.toNat i → i < S.gn → inT S off n.toNat i = true → ∃ g b, Aa = some ⟨g, 0, none⟩ ∧ wr.cell? ⟨g, i, none⟩ = some (.bool b) ∧ wr.frozen? ⟨g, i, none⟩ = false ∧ Hid (Ta w (wr.setCell ⟨g, i, none⟩ (.bool true)) base q o T L (.slice Ab S.bs.length cb) (.slice Aa S.bs.length ca) (.slice Ag S.bs.length cg) C A aw S off n.toNat (i + 1))) := Lib.hid (fun wr i h hi hy => by
    obtain ⟨g, h1, h2, h3, h4⟩ := owb_get h.r.oa (i := i) (b := turnF S.ak S off n.toNat i i) (tabB_get _ _ _ (by omega))
    obtain ⟨h5, h6⟩ := h4 true
    rw [turnF_yes _ _ _ _ _ _ hy] at h5
    refine ⟨g, _, h1, h2, h3, Lib.hid ⟨h.r.acks h5 h6, h.k.trans' h6 fun j hj => .inl (rqO_at (i := 2) (by rw [← hj]; rfl))⟩⟩)
  have HEND : Hid (∀ wr, Ta w wr base q o T L (.slice Ab S.bs.length cb) (.slice Aa S.bs.length ca) (.slice Ag S.bs.length cg) C A aw S off n.toNat S.gn →
      ((fin && S.en) = false → RsPost (.tuple #[]) base q o T L (rqO q (.slice Ab S.bs.length cb) (.slice Aa S.bs.length ca) (.slice Ag S.bs.length cg)) (ackO S off n.toNat fin) w (.returned (.tuple #[])) wr) ∧
      ((fin && S.en) = true → RsPost (.tuple #[]) base q o T L (rqO q (.slice Ab S.bs.length cb) (.slice Aa S.bs.length ca) (.slice Ag S.bs.length cg)) (ackO S off n.toNat fin) w (.returned (.tuple #[])) (wr.setCell ⟨q, o + 6, none⟩ (.bool true))) ∧ wr.cell? ⟨q, o + 6, none⟩ = some (.bool S.ea) ∧ wr.frozen? ⟨q, o + 6, none⟩ = false) := Lib.hid (fun wr h => by
    have hr := h.r
    rw [turnF_end] at hr
    have hrf := Rf.ack hfc hfa hag haw off n.toNat fin
    refine ⟨fun hf0 => ?_, fun hf1 => ?_, hr.cell 6 rfl, hr.at_.frozen _⟩
    · refine ⟨rfl, L, _, ⟨_, _, _, _, _, rfl, ?_, hrf⟩, Samo.refl _ _, h.k, fun j hj => .inl hj⟩
      have e : (ackO S off n.toNat fin).ea = S.ea := by
        show (S.ea || (fin && S.en)) = _
        rw [hf0, Bool.or_false]
      rw [e]
      exact hr
    · refine ⟨rfl, _, _, ⟨_, _, _, _, _, rfl, ?_, hrf⟩, (Samo.refl o L).set (i := 6) (by omega) (.bool true), h.k.setCell (p := ⟨q, o + 6, none⟩) (.inl (rqO_at (i := 0) rfl)) _, fun j hj => .inl hj⟩
      have e : (ackO S off n.toNat fin).ea = true := by
        show (S.ea || (fin && S.en)) = _
        rw [hf1, Bool.or_true]
      rw [e]
      exact hr.top 6 (.bool true) rfl (by omega))
  have HIN : Hid (∀ i, i < S.gn → inT S off n.toNat i = (decide (off ≤ i) && decide (i < off + n.toNat))) := Lib.hid (fun i hi => by unfold inT; simp [hi])
  have hgb : S.gn ≤ 1000000 := by omega
  have hgn : (S.gn : Int) ≤ (S.bs.length : Int) := by omega
  clear hr hfc hfa hag haw h hok l1 l2
  generalize S.bs.length = len at *
  obtain ⟨S', hS'⟩ : ∃ S', S' = ackO S off n.toNat fin := ⟨_, rfl⟩
  rw [← hS'] at HEND ⊢
  clear hS'
  have hwu : ∀ x : Nat, x ≤ 1000000 → IntKind.u64.wrap (x : Int) = (x : Int) := fun x hx => by rw [IntKind.wrap_u64]; omega
  have HWU := Lib.hid hwu
  clear hwu
  go_enter Try.func24, Try.ntmps24
  go_wp2
  go_loopg [10] S.gn (fun kx s10 wr => ∃ i : Nat, s10 = .int .i64 i ∧ i ≤ S.gn ∧ S.gn - i ≤ kx ∧ Hid (Ta w wr base q o T L (.slice Ab len cb) (.slice Aa len ca) (.slice Ag len cg) C A aw S off n.toNat i))
  case atStart => exact ⟨0, rfl, Nat.zero_le _, by omega, HT0⟩
  case round =>
    clear HT0
    obtain ⟨i, rfl, hig, hkx, hT⟩ := hrel
    obtain ⟨c3, c1, c5⟩ := HC.out wr i hT.out
    rcases Nat.lt_or_ge i S.gn with hi | hi
    · have hiz : (i : Int) < (S.gn : Int) := by omega
      have wi := HWU.out i (by omega)
      rcases Nat.lt_or_ge i off with h1 | h1
      · have h1z : ¬ (off : Int) ≤ (i : Int) := by omega
        have HX := Lib.hid (HNO.out wr i hT.out (by rw [HIN.out i hi]; simp; omega))
        clear hT
        go_wp2
        go_roundg (S.gn - (i + 1))
        case measure => omega
        case rel => exact ⟨i + 1, by simp, by omega, Nat.le_refl _, HX⟩
      · have h1z : (off : Int) ≤ (i : Int) := by omega
        obtain ⟨t, ht⟩ : ∃ t, t = i - off := ⟨_, rfl⟩
        have zt : (i : Int) - (off : Int) = (t : Int) := by omega
        have wt := HWU.out t (by omega)
        rcases Int.lt_or_le n 0 with h2 | h2
        · have h3 : ¬ (t : Int) < 0 := by omega
          have HX := Lib.hid (HNO.out wr i hT.out (by rw [HIN.out i hi]; simp; omega))
          clear hT ht
          go_wp2
          go_roundg (S.gn - (i + 1))
          case measure => omega
          case rel => exact ⟨i + 1, by simp, by omega, Nat.le_refl _, HX⟩
        · obtain ⟨N, hN⟩ : ∃ N, N = n.toNat := ⟨_, rfl⟩
          have hNn : n = (N : Int) := by omega
          have h2' : ¬ n < 0 := by omega
          have wN : IntKind.u64.wrap n = (N : Int) := by rw [IntKind.wrap_u64]; omega
          by_cases h3 : t < N
          · have h3z : (t : Int) < (N : Int) := by omega
            obtain ⟨g, b, e, x1, x2, HX⟩ := HYES.out wr i hT.out hi (by rw [HIN.out i hi]; simp; omega)
            have hil : (i : Int) < (len : Int) := by omega
            subst e
            clear hT ht hN hNn
            go_wp2
            go_roundg (S.gn - (i + 1))
            case measure => omega
            case rel => exact ⟨i + 1, by simp, by omega, Nat.le_refl _, HX⟩
          · have h3z : ¬ (t : Int) < (N : Int) := by omega
            have HX := Lib.hid (HNO.out wr i hT.out (by rw [HIN.out i hi]; simp; omega))
            clear hT ht hN hNn
            go_wp2
            go_roundg (S.gn - (i + 1))
            case measure => omega
            case rel => exact ⟨i + 1, by simp, by omega, Nat.le_refl _, HX⟩
    · obtain rfl : i = S.gn := by omega
      have hiz : ¬ (S.gn : Int) < (S.gn : Int) := by omega
      obtain ⟨z1, z2, z3, z4⟩ := HEND.out wr hT.out
      clear hT HEND HIN HNO HYES HC
      generalize S.en = en at *
      cases fin
      · have HZ := Lib.hid (z1 (by simp))
        clear z1 z2
        go_wp2
        go_end0
        exact HZ.out
      · cases en
        · have HZ := Lib.hid (z1 (by simp))
          clear z1 z2
          go_wp2
          go_end0
          exact HZ.out
        · have HZ := Lib.hid (z2 (by simp))
          clear z1 z2
          go_wp2
          go_end0
          exact HZ.out
/-- lost: behind i rounds. -/
structure Tg (w wr : World) (base q o : Nat) (T : TypeId) (L : List Value) (vb va vg : Value) (C A : List Bool) (aw : Nat → Bool) (S : OS) (off N i : Nat) : Prop where
  r : Rr wr base q o T L vb va vg S.bs C (tabB (turnF aw S off N i) S.bs.length) S.gn S.ov S.en S.ea S.el
  k : Kept (rqO q vb va vg) w wr
set_option maxHeartbeats 8000000 in
set_option maxRecDepth 100000 in
theorem rturn_lost (h : Rs w base q o T L O S) (hok : S.ok) (hL : S.bs.length ≤ 1000000) (off : Nat) (ho : off < 18446744073709551616) (n : Int) (hn : -9223372036854775808 ≤ n ∧ n < 9223372036854775808) (fin : Bool) :
    Calls Try.prog 24 #[.pointer (some ⟨q, o, none⟩), .int .u64 off, .int .i64 n, .bool fin, .bool false] w (RsPost (.tuple #[]) base q o T L O (lostO S off n.toNat fin) w) := by
  obtain ⟨Ab, cb, Aa, ca, Ag, cg, C, A, rfl, hr, hf, l1, l2⟩ := h.open_
  obtain ⟨hfc, aw, hfa, hag, haw⟩ := hf
  have hgl := hok.gl
  have HT0 : Hid (Tg w w base q o T L (.slice Ab S.bs.length cb) (.slice Aa S.bs.length ca) (.slice Ag S.bs.length cg) C A aw S off n.toNat 0) := Lib.hid ⟨by rw [turnF_0, ← hfa]; exact hr, Kept.refl _ _⟩
  have HC : Hid (∀ wr i, Tg w wr base q o T L (.slice Ab S.bs.length cb) (.slice Aa S.bs.length ca) (.slice Ag S.bs.length cg) C A aw S off n.toNat i → wr.cell? ⟨q, o + 3, none⟩ = some (.int .i64 S.gn) ∧ wr.cell? ⟨q, o + 2, none⟩ = some (.slice Ag S.bs.length cg) ∧ wr.cell? ⟨q, o + 5, none⟩ = some (.bool S.en)) := Lib.hid (fun wr i h => ⟨h.r.cell 3 rfl, h.r.cell 2 rfl, h.r.cell 5 rfl⟩)
  have HNO : Hid (∀ wr i, Tg w wr base q o T L (.slice Ab S.bs.length cb) (.slice Aa S.bs.length ca) (.slice Ag S.bs.length cg) C A aw S off n.toNat i → inT S off n.toNat i = false → Tg w wr base q o T L (.slice Ab S.bs.length cb) (.slice Aa S.bs.length ca) (.slice Ag S.bs.length cg) C A aw S off n.toNat (i + 1)) := Lib.hid (fun wr i h hno => ⟨by rw [turnF_no _ _ _ _ _ hno]; exact h.r, h.k⟩)
  have HYES : Hid (∀ wr i, Tg w wr base q o T L (.slice Ab S.bs.length cb) (.slice Aa S.bs.length ca) (.slice Ag S.bs.length cg) C A aw S off n.toNat i → i < S.gn → inT S off n.toNat i = true → ∃ g b, Ag = some ⟨g, 0, none⟩ ∧ wr.cell? ⟨g, i, none⟩ = some (.bool b) ∧ wr.frozen? ⟨g, i, none⟩ = false ∧ Hid (Tg w (wr.setCell ⟨g, i, none⟩ (.bool true)) base q o T L (.slice Ab S.bs.length cb) (.slice Aa S.bs.length ca) (.slice Ag S.bs.length cg) C A aw S off n.toNat (i + 1))) := Lib.hid (fun wr i h hi hy => by
    obtain ⟨g, h1, h2, h3, h4⟩ := owb_get h.r.og (i := i) (b := turnF aw S off n.toNat i i) (tabB_get _ _ _ (by omega))
    obtain ⟨h5, h6⟩ := h4 true
    rw [turnF_yes _ _ _ _ _ _ hy] at h5
    refine ⟨g, _, h1, h2, h3, Lib.hid ⟨h.r.agains h5 h6, h.k.trans' h6 fun j hj => .inl (rqO_at (i := 3) (by rw [← hj]; rfl))⟩⟩)
  have HEND : Hid (∀ wr, Tg w wr base q o T L (.slice Ab S.bs.length cb) (.slice Aa S.bs.length ca) (.slice Ag S.bs.length cg) C A aw S off n.toNat S.gn →
      ((fin && S.en) = false → RsPost (.tuple #[]) base q o T L (rqO q (.slice Ab S.bs.length cb) (.slice Aa S.bs.length ca) (.slice Ag S.bs.length cg)) (lostO S off n.toNat fin) w (.returned (.tuple #[])) wr) ∧
      ((fin && S.en) = true → RsPost (.tuple #[]) base q o T L (rqO q (.slice Ab S.bs.length cb) (.slice Aa S.bs.length ca) (.slice Ag S.bs.length cg)) (lostO S off n.toNat fin) w (.returned (.tuple #[])) (wr.setCell ⟨q, o + 7, none⟩ (.bool true))) ∧ wr.cell? ⟨q, o + 7, none⟩ = some (.bool S.el) ∧ wr.frozen? ⟨q, o + 7, none⟩ = false) := Lib.hid (fun wr h => by
    have hr := h.r
    rw [turnF_end] at hr
    have hrf := Rf.lost hfc hfa hag haw off n.toNat fin
    refine ⟨fun hf0 => ?_, fun hf1 => ?_, hr.cell 7 rfl, hr.at_.frozen _⟩
    · refine ⟨rfl, L, _, ⟨_, _, _, _, _, rfl, ?_, hrf⟩, Samo.refl _ _, h.k, fun j hj => .inl hj⟩
      have e : (lostO S off n.toNat fin).el = S.el := by
        show (S.el || (fin && S.en)) = _
        rw [hf0, Bool.or_false]
      rw [e]
      exact hr
    · refine ⟨rfl, _, _, ⟨_, _, _, _, _, rfl, ?_, hrf⟩, (Samo.refl o L).set (i := 7) (by omega) (.bool true), h.k.setCell (p := ⟨q, o + 7, none⟩) (.inl (rqO_at (i := 0) rfl)) _, fun j hj => .inl hj⟩
      have e : (lostO S off n.toNat fin).el = true := by
        show (S.el || (fin && S.en)) = _
        rw [hf1, Bool.or_true]
      rw [e]
      exact hr.top 7 (.bool true) rfl (by omega))
  have HIN : Hid (∀ i, i < S.gn → inT S off n.toNat i = (decide (off ≤ i) && decide (i < off + n.toNat))) := Lib.hid (fun i hi => by unfold inT; simp [hi])
  have hgb : S.gn ≤ 1000000 := by omega
  have hgn : (S.gn : Int) ≤ (S.bs.length : Int) := by omega
  clear hr hfc hfa hag haw h hok l1 l2
  generalize S.bs.length = len at *
  obtain ⟨S', hS'⟩ : ∃ S', S' = lostO S off n.toNat fin := ⟨_, rfl⟩
  rw [← hS'] at HEND ⊢
  clear hS'
  have hwu : ∀ x : Nat, x ≤ 1000000 → IntKind.u64.wrap (x : Int) = (x : Int) := fun x hx => by rw [IntKind.wrap_u64]; omega
  have HWU := Lib.hid hwu
  clear hwu
  go_enter Try.func24, Try.ntmps24
  go_wp2
  go_loopg [10] S.gn (fun kx s10 wr => ∃ i : Nat, s10 = .int .i64 i ∧ i ≤ S.gn ∧ S.gn - i ≤ kx ∧ Hid (Tg w wr base q o T L (.slice Ab len cb) (.slice Aa len ca) (.slice Ag len cg) C A aw S off n.toNat i))
  case atStart => exact ⟨0, rfl, Nat.zero_le _, by omega, HT0⟩
  case round =>
    clear HT0
    obtain ⟨i, rfl, hig, hkx, hT⟩ := hrel
    obtain ⟨c3, c1, c5⟩ := HC.out wr i hT.out
    rcases Nat.lt_or_ge i S.gn with hi | hi
    · have hiz : (i : Int) < (S.gn : Int) := by omega
      have wi := HWU.out i (by omega)
      rcases Nat.lt_or_ge i off with h1 | h1
      · have h1z : ¬ (off : Int) ≤ (i : Int) := by omega
        have HX := Lib.hid (HNO.out wr i hT.out (by rw [HIN.out i hi]; simp; omega))
        clear hT
        go_wp2
        go_roundg (S.gn - (i + 1))
        case measure => omega
        case rel => exact ⟨i + 1, by simp, by omega, Nat.le_refl _, HX⟩
      · have h1z : (off : Int) ≤ (i : Int) := by omega
        obtain ⟨t, ht⟩ : ∃ t, t = i - off := ⟨_, rfl⟩
        have zt : (i : Int) - (off : Int) = (t : Int) := by omega
        have wt := HWU.out t (by omega)
        rcases Int.lt_or_le n 0 with h2 | h2
        · have h3 : ¬ (t : Int) < 0 := by omega
          have HX := Lib.hid (HNO.out wr i hT.out (by rw [HIN.out i hi]; simp; omega))
          clear hT ht
          go_wp2
          go_roundg (S.gn - (i + 1))
          case measure => omega
          case rel => exact ⟨i + 1, by simp, by omega, Nat.le_refl _, HX⟩
        · obtain ⟨N, hN⟩ : ∃ N, N = n.toNat := ⟨_, rfl⟩
          have hNn : n = (N : Int) := by omega
          have h2' : ¬ n < 0 := by omega
          have wN : IntKind.u64.wrap n = (N : Int) := by rw [IntKind.wrap_u64]; omega
          by_cases h3 : t < N
          · have h3z : (t : Int) < (N : Int) := by omega
            obtain ⟨g, b, e, x1, x2, HX⟩ := HYES.out wr i hT.out hi (by rw [HIN.out i hi]; simp; omega)
            have hil : (i : Int) < (len : Int) := by omega
            subst e
            clear hT ht hN hNn
            go_wp2
            go_roundg (S.gn - (i + 1))
            case measure => omega
            case rel => exact ⟨i + 1, by simp, by omega, Nat.le_refl _, HX⟩
          · have h3z : ¬ (t : Int) < (N : Int) := by omega
            have HX := Lib.hid (HNO.out wr i hT.out (by rw [HIN.out i hi]; simp; omega))
            clear hT ht hN hNn
            go_wp2
            go_roundg (S.gn - (i + 1))
            case measure => omega
            case rel => exact ⟨i + 1, by simp, by omega, Nat.le_refl _, HX⟩
    · obtain rfl : i = S.gn := by omega
      have hiz : ¬ (S.gn : Int) < (S.gn : Int) := by omega
      obtain ⟨z1, z2, z3, z4⟩ := HEND.out wr hT.out
      clear hT HEND HIN HNO HYES HC
      generalize S.en = en at *
      cases fin
      · have HZ := Lib.hid (z1 (by simp))
        clear z1 z2
        go_wp2
        go_end0
        exact HZ.out
      · cases en
        · have HZ := Lib.hid (z1 (by simp))
          clear z1 z2
          go_wp2
          go_end0
          exact HZ.out
        · have HZ := Lib.hid (z2 (by simp))
          clear z1 z2
          go_wp2
          go_end0
          exact HZ.out
end
end Go.Proofs.Ytoakahofiodbhaa
