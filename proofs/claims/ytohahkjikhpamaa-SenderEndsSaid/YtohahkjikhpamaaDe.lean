/-
  outbuf.Buffer: New, Length, Sent, Room, Finish, Whole.
-/
import Derived.Test.YtohahkjikhpamaaDd
import Derived.BigQuiet
namespace Go.Proofs.Ytohahkjikhpamaa
set_option linter.unusedVariables false
set_option linter.unusedSimpArgs false
open Go.RowKit
/-- What New leaves. -/
def ONew (w : World) (e : Ending) (w' : World) : Prop := ∃ p, e = .returned (.pointer (some ⟨p, 0, none⟩)) ∧ (∃ O, Of w' w.heap.size p O os0) ∧ Below w.heap.size w w'
theorem sa0 : Sa os0 [] [] := ⟨Gd.nil_, Gd.nil_, fun j => rfl, fun j => rfl⟩
set_option maxRecDepth 100000 in
theorem onew_any (w : World) : Calls Try.prog 18 #[] w (ONew w) := by
  have HN := Lib.hid (fun w : World => new_any 2048 w (by omega))
  have HF : Hid (∀ w1 w2, SetV w1 w.heap.size w.heap.size 2048 (.slice none 0 0) [] → Below w.heap.size w w1 → SetV w2 w1.heap.size w1.heap.size 2048 (.slice none 0 0) [] → Below w1.heap.size w1 w2 →
      ONew w (.returned (.pointer (some ⟨w2.heap.size, 0, none⟩))) (w2.alloc (.cells #[.int .u64 0, .slice none 0 0, .int .u64 0, .pointer (some ⟨w.heap.size, 0, none⟩), .pointer (some ⟨w1.heap.size, 0, none⟩), .bool false, .bool false, .bool false, .bool false] 70))) := Lib.hid (by
    intro w1 w2 hs1 hb1 hs2 hb2
    have h1 := hs1.at_.lt
    have h2 := hs2.at_.lt
    have hb3 : Below w2.heap.size w2 (w2.alloc (.cells #[.int .u64 0, .slice none 0 0, .int .u64 0, .pointer (some ⟨w.heap.size, 0, none⟩), .pointer (some ⟨w1.heap.size, 0, none⟩), .bool false, .bool false, .bool false, .bool false] 70)) := (Below.refl _ _).alloc (Nat.le_refl _) _
    refine ⟨_, rfl, ⟨_, _, _, .slice none 0 0, .slice none 0 0, .slice none 0 0, [], [], rfl, ⟨At.new w2 _ _, (hs1.below hb2).below hb3, (hs2.base_ hb1.size).below hb3, Own.none_ _ _ _, ?_, Nat.le_trans hb1.size hb2.size⟩, sa0⟩, hb1.trans ((hb2.mono hb1.size).trans (hb3.mono (Nat.le_trans hb1.size hb2.size)))⟩
    intro i j k hi hj
    unfold obs at hi hj
    match i, j with
    | 0, 0 | 1, 1 | 2, 2 => rfl
    | 0, 1 | 0, 2 | 1, 0 | 1, 2 | 2, 0 | 2, 1 => (simp at hi hj; omega)
    | 3, _ | 4, _ | 5, _ => (simp [Value.ownBlock] at hi)
    | _, 3 | _, 4 | _, 5 => (simp [Value.ownBlock] at hj)
    | i + 6, _ => (simp at hi)
    | _, j + 6 => (simp at hj))
  go_enter Try.func18, Try.ntmps18
  go_wp2_with (first
    | (go_at_call 30; (with_reducible refine (HN.out w).mono ?_); rintro e w1 ⟨rfl, hs1, hb1⟩; have H1 := Lib.hid (And.intro hs1 hb1); have HN1 := Lib.hid (HN.out w1); clear hs1 hb1)
    | (go_at_call 30; (with_reducible refine HN1.out.mono ?_); rintro e w2 ⟨rfl, hs2, hb2⟩; have HO := Lib.hid (HF.out w1 w2 H1.out.1 H1.out.2 hs2 hb2); clear hs2 hb2))
  go_ret
  exact HO.out
section
variable {w : World} {base p : Nat} {O : Nat → Prop} {S : OS}
theorem olen_at {pa pl : Nat} {va vl : Value} {la ll : RL} {A : Option Addr} {m c b gn : Nat} {W : List Int} {ov du en ea : Bool} (h : Om w base p pa pl va vl (.slice A m c) la ll W b gn ov du en ea) (hb : b + m ≤ 1099511627776) : Calls Try.prog 40 #[.pointer (some ⟨p, 0, none⟩)] w fun e w' => e = .returned (.int .u64 (b + m : Nat)) ∧ ∃ d, w' = w.drewN d := by
  have h0 := h.c0
  have h1 := h.c1
  have hz : (b : Int) + (m : Int) = ((b + m : Nat) : Int) := by omega
  obtain ⟨R, hR⟩ : ∃ R, R = b + m := ⟨_, rfl⟩
  rw [← hR] at hz hb ⊢
  have hm : m ≤ 1099511627776 := by omega
  have hbb : b ≤ 1099511627776 := by omega
  have hwm : IntKind.u64.wrap (m : Int) = (m : Int) := by rw [IntKind.wrap_u64]; omega
  have hwR : IntKind.u64.wrap (R : Int) = (R : Int) := by rw [IntKind.wrap_u64]; omega
  clear h hR
  go_enter Try.func40, Try.ntmps40
  go_wp2
  go_quiet (fail)
  go_wp2
  go_ret
  exact ⟨rfl, _, rfl⟩
theorem olen_any (h : Of w base p O S) (hL : S.bs.length ≤ 1099511627776) : Calls Try.prog 40 #[.pointer (some ⟨p, 0, none⟩)] w fun e w' => e = .returned (.int .u64 S.bs.length) ∧ ∃ d, w' = w.drewN d := by
  obtain ⟨pa, pl, va, vl, vw, la, ll, _, h, _⟩ := h
  have hb := baseO_le S
  have hl : (S.bs.drop (baseO S)).length = S.bs.length - baseO S := List.length_drop
  obtain ⟨A, c, rfl, _, _, _⟩ := h.own.open_n _ hl
  have := olen_at h (by omega)
  rw [show baseO S + (S.bs.length - baseO S) = S.bs.length by omega] at this
  exact this
theorem osent_any (h : Of w base p O S) : Calls Try.prog 26 #[.pointer (some ⟨p, 0, none⟩)] w fun e w' => e = .returned (.int .u64 S.gn) ∧ w' = w := by
  obtain ⟨pa, pl, va, vl, vw, la, ll, _, h, _⟩ := h
  have h2 := h.c2
  clear h
  go_enter Try.func26, Try.ntmps26
  go_wp2
  go_ret
  exact ⟨rfl, rfl⟩
theorem oroom_any (h : Of w base p O S) (hok : S.ok) : Calls Try.prog 19 #[.pointer (some ⟨p, 0, none⟩)] w fun e w' => e = .returned (.int .i64 (roomO S)) ∧ w' = w := by
  obtain ⟨pa, pl, va, vl, vw, la, ll, _, h, _⟩ := h
  have hb := baseO_le S
  have hr := hok.rm
  have hl : (S.bs.drop (baseO S)).length = S.bs.length - baseO S := List.length_drop
  obtain ⟨A, c, rfl, _, _, _⟩ := h.own.open_n _ hl
  have h1 := h.c1
  have h5 := h.c5
  clear h hl
  unfold roomO
  obtain ⟨m, hm⟩ : ∃ m, m = S.bs.length - baseO S := ⟨_, rfl⟩
  rw [← hm] at h1 ⊢
  have hm2 : m ≤ 2048 := by omega
  have hz : (2048 : Int) - (m : Int) = ((2048 - m : Nat) : Int) := by omega
  obtain ⟨k, hk⟩ : ∃ k, k = 2048 - m := ⟨_, rfl⟩
  rw [← hk] at hz ⊢
  have hk2 : k ≤ 2048 := by omega
  clear hm hk hb hr
  cases hov : S.ov
  · rw [hov] at h5
    go_enter Try.func19, Try.ntmps19
    go_wp2
    go_ret
    exact ⟨by simp, rfl⟩
  · rw [hov] at h5
    go_enter Try.func19, Try.ntmps19
    go_wp2
    go_ret
    exact ⟨by simp, rfl⟩
theorem ofinish_any (h : Of w base p O S) (hok : S.ok) : Calls Try.prog 21 #[.pointer (some ⟨p, 0, none⟩)] w (OfPost (.bool (!S.ov)) base p O (finO S) w) := by
  obtain ⟨pa, pl, va, vl, vw, la, ll, rfl, h, hy⟩ := h
  have h5 := h.c5
  cases hov : S.ov
  · have he : endO (finO S) = true := by
      have h1 : S.en = false := by
        cases hc : S.en with
        | false => rfl
        | true => have := (hok.eo hc).1; rw [hov] at this; cases this
      have h2 : S.ea = false := by
        cases hc : S.ea with
        | false => rfl
        | true => have := hok.ee hc; rw [h1] at this; cases this
      unfold endO finO
      simp [h1, h2]
    have HP : Hid (OfPost (.bool (!false)) base p (oO p pa pl va vl vw) (finO S) w (.returned (.bool true)) ((w.setCell ⟨p, 5, none⟩ (.bool true)).setCell ⟨p, 6, none⟩ (.bool true))) := Lib.hid (by
      refine ⟨rfl, _, ⟨pa, pl, va, vl, vw, la, ll, rfl, ?_, ⟨hy.ga, hy.gl, hy.ya, hy.yl⟩⟩, ((Kept.refl _ _).setCell (p := ⟨p, 5, none⟩) (.inl (oO_at (i := 0) rfl)) _).setCell (p := ⟨p, 6, none⟩) (.inl (oO_at (i := 0) rfl)) _, fun j hj => .inl hj⟩
      rw [he]
      exact (h.set_ov true).set_du true)
    rw [hov] at h5
    have f5 := h.at_.frozen 5
    have f6 := (h.at_.set 5 (.bool true)).frozen 6
    have f6' := h.at_.frozen 6
    have h6 := h.c6
    have h6' := (h.set_ov true).c6
    clear h hy
    go_enter Try.func21, Try.ntmps21
    go_wp2
    go_ret
    exact HP.out
  · have HP : Hid (OfPost (.bool (!true)) base p (oO p pa pl va vl vw) (finO S) w (.returned (.bool false)) w) := Lib.hid (by
      refine ⟨rfl, _, ⟨pa, pl, va, vl, vw, la, ll, rfl, ?_, ⟨hy.ga, hy.gl, hy.ya, hy.yl⟩⟩, Kept.refl _ _, fun j hj => .inl hj⟩
      have e : finO S = S := by
        obtain ⟨bs, ak, ag, gn, ov, en, ea, el⟩ := S
        simp only at hov
        subst hov
        rfl
      rw [e]
      exact h)
    rw [hov] at h5
    clear h hy
    go_enter Try.func21, Try.ntmps21
    go_wp2
    go_ret
    exact HP.out
theorem owhole_any (h : Of w base p O S) (hok : S.ok) : Calls Try.prog 29 #[.pointer (some ⟨p, 0, none⟩)] w fun e w' => e = .returned (.bool (wholeO S)) ∧ w' = w := by
  obtain ⟨pa, pl, va, vl, vw, la, ll, _, h, _⟩ := h
  have hb := baseO_le S
  have hr := hok.rm
  have hl : (S.bs.drop (baseO S)).length = S.bs.length - baseO S := List.length_drop
  obtain ⟨A, c, rfl, _, _, _⟩ := h.own.open_n _ hl
  have h1 := h.c1
  have h8 := h.c8
  have hov : S.ea = true → S.ov = true := fun e => (hok.eo (hok.ee e)).1
  clear h hl
  unfold wholeO
  obtain ⟨m, hm⟩ : ∃ m, m = S.bs.length - baseO S := ⟨_, rfl⟩
  rw [← hm] at h1
  have hm2 : m ≤ 2048 := by omega
  have hd : decide (baseO S = S.bs.length) = decide (m = 0) := by rw [decide_eq_decide]; omega
  rw [hd]
  clear hm hb hr hd
  cases hea : S.ea
  · rw [hea] at h8
    go_enter Try.func29, Try.ntmps29
    go_wp2
    go_ret
    exact ⟨by simp, rfl⟩
  · rw [hea] at h8
    rw [hov hea]
    rcases Nat.eq_zero_or_pos m with h0 | h0
    · subst h0
      go_enter Try.func29, Try.ntmps29
      go_wp2
      go_ret
      exact ⟨by simp, rfl⟩
    · have hmz : ¬ (m : Int) = 0 := by omega
      have hmn : ¬ m = 0 := by omega
      go_enter Try.func29, Try.ntmps29
      go_wp2
      go_ret
      exact ⟨by simp [hmn], rfl⟩
end
end Go.Proofs.Ytohahkjikhpamaa
