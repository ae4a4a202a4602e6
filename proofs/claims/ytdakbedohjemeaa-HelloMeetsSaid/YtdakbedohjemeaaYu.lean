/-
  HelloMeets: what the walk asks of two sides that hear one another (Meet); that they are so.
-/
import Derived.Test.YtdakbedohjemeaaYt
namespace Go.Proofs.Ytdakbedohjemeaa
set_option linter.unusedVariables false
set_option linter.unusedSimpArgs false
open Go.RowKit
structure Meet (XW YW : Nat → Nat → HS) (M1 M2 F1 F2 : List Int) (N1 N2 : Nat) (S1 S2 : Int) (p q : PN) : Prop where
  m1 : M1.length = N1
  m2 : M2.length = N2
  f1 : F1.length = 11
  f2 : F2.length = 11
  z1 : 0 < N1 ∧ N1 ≤ 61
  z2 : 0 < N2 ∧ N2 ≤ 61
  gx : ∀ {a0 a1 c0 c1}, Jm N1 N2 a0 a1 c0 c1 → greetB (XW c0 c1) = decide (c0 = N2)
  gy : ∀ {a0 a1 c0 c1}, Jm N1 N2 a0 a1 c0 c1 → greetB (YW a0 a1) = decide (a0 = N1)
  ox0 : ∀ {a0 a1 c0 c1}, Jm N1 N2 a0 a1 c0 c1 → outS (XW c0 c1) 0 = M1
  ox1 : ∀ {a0 a1 c0 c1}, Jm N1 N2 a0 a1 c0 c1 → outS (XW c0 c1) 1 = if c1 = 11 then F1 else []
  oy0 : ∀ {a0 a1 c0 c1}, Jm N1 N2 a0 a1 c0 c1 → outS (YW a0 a1) 0 = if a0 = N1 then M2 else []
  oy1 : ∀ {a0 a1 c0 c1}, Jm N1 N2 a0 a1 c0 c1 → outS (YW a0 a1) 1 = if a0 = N1 then F2 else []
  fy0 : ∀ {a0 a1 c0 c1}, Jm N1 N2 a0 a1 c0 c1 → ∀ k, k ≤ N1 - a0 → feedX (YW a0 a1) 0 ((M1.drop a0).take k) = YW (a0 + k) a1
  fx0 : ∀ {a0 a1 c0 c1}, Jm N1 N2 a0 a1 c0 c1 → ∀ k, k ≤ (if a0 = N1 then N2 else 0) - c0 → feedX (XW c0 c1) 0 (((if a0 = N1 then M2 else []).drop c0).take k) = XW (c0 + k) c1
  fy1 : ∀ {a0 a1 c0 c1}, Jm N1 N2 a0 a1 c0 c1 → ∀ k, k ≤ (if c1 = 11 then 11 else 0) - a1 → feedX (YW a0 a1) 1 (((if c1 = 11 then F1 else []).drop a1).take k) = YW a0 (a1 + k)
  fx1 : ∀ {a0 a1 c0 c1}, Jm N1 N2 a0 a1 c0 c1 → ∀ k, k ≤ (if a0 = N1 then 11 else 0) - c1 → feedX (XW c0 c1) 1 (((if a0 = N1 then F2 else []).drop c1).take k) = XW c0 (c1 + k)
  cx : ∀ {a0 a1 c0 c1}, Jm N1 N2 a0 a1 c0 c1 → (XW c0 c1).code = 0
  cy : ∀ {a0 a1 c0 c1}, Jm N1 N2 a0 a1 c0 c1 → (YW a0 a1).code = 0
  sx1 : secS (XW N2 11) 1 = (S1, true)
  sy1 : secS (YW N1 11) 1 = (S1, true)
  sx2 : secS (XW N2 11) 2 = (S2, true)
  sy2 : secS (YW N1 11) 2 = (S2, true)
  tx : (XW N2 11).th = q
  ty : (YW N1 11).th = p
  dx : doneB (XW N2 11) = true
  dy : doneB (YW N1 11) = true
/-- What a way keeps. -/
theorem Way.keeps {Z0 Zg Ze : HS} {b1 b2 : List Int} (h : Way Z0 Zg Ze b1 b2) {α : Type} (f : HS → α) (hf : ∀ Z l, f (withHeld Z l) = f Z) (v : α) (e0 : f Z0 = v) (eg : f Zg = v) (ee : f Ze = v) {c0 c1 : Nat} (h0 : c0 ≤ b1.length + 3) (h1 : c1 ≤ 11) (h2 : 0 < c1 → c0 = b1.length + 3) : f (wayX Z0 b1 b2 c0 c1) = v := by
  rcases h.cases h0 h1 h2 with ⟨_, _, l, e⟩ | ⟨_, _, l, e⟩ | ⟨_, _, e⟩
  · rw [e, hf, e0]
  · rw [e, hf, eg]
  · rw [e, ee]
theorem piece_nil (k : Nat) (j : Nat) : (([] : List Int).drop j).take k = [] := by simp
theorem meet_of (psk : Int) (m m' : N8) (p q : PN) (hp : p.wf) (rp : prightB p = true) (hq : q.wf) (rq : prightB q = true) :
    Meet (fun c0 c1 => wayX (hs0 true psk m p) (m'.l ++ pencS q) (proofS (shS psk m m' p q) false).l c0 c1)
      (fun a0 a1 => wayX (hs0 false psk m' q) (m.l ++ pencS p) (proofS (shS psk m m' p q) true).l a0 a1)
      (helS m p) (helS m' q) (msgS 20 (proofS (shS psk m m' p q) true).l) (msgS 20 (proofS (shS psk m m' p q) false).l) (helS m p).length (helS m' q).length
      (shS psk m m' p q) (keyedS (shS psk m m' p q) dataB) p q := by
  have wx := way_asks psk m m' p q hq rq
  have wy := way_answers psk m m' p q hp rp
  have hx : (m'.l ++ pencS q).length + 3 = (helS m' q).length := by unfold helS; rw [msgS_len]
  have hy : (m.l ++ pencS p).length + 3 = (helS m p).length := by unfold helS; rw [msgS_len]
  have jx : ∀ {a0 a1 c0 c1}, Jm (helS m p).length (helS m' q).length a0 a1 c0 c1 → c0 ≤ (m'.l ++ pencS q).length + 3 ∧ c1 ≤ 11 ∧ (0 < c1 → c0 = (m'.l ++ pencS q).length + 3) := fun h => by rw [hx]; exact ⟨h.lc0, h.lc1, h.cc⟩
  have jy : ∀ {a0 a1 c0 c1}, Jm (helS m p).length (helS m' q).length a0 a1 c0 c1 → a0 ≤ (m.l ++ pencS p).length + 3 ∧ a1 ≤ 11 ∧ (0 < a1 → a0 = (m.l ++ pencS p).length + 3) := fun h => by
    rw [hy]
    refine ⟨h.la0, h.la1, fun h1 => ?_⟩
    have e1 := h.ac h1
    have e2 := h.cc (by omega)
    have := h.n2
    exact h.ca (by omega)
  have gx : ∀ {a0 a1 c0 c1}, Jm (helS m p).length (helS m' q).length a0 a1 c0 c1 → greetB (wayX (hs0 true psk m p) (m'.l ++ pencS q) (proofS (shS psk m m' p q) false).l c0 c1) = decide (c0 = (helS m' q).length) := fun h => by rw [wx.greet (jx h).1 (jx h).2.1 (jx h).2.2, hx]
  have gy : ∀ {a0 a1 c0 c1}, Jm (helS m p).length (helS m' q).length a0 a1 c0 c1 → greetB (wayX (hs0 false psk m' q) (m.l ++ pencS p) (proofS (shS psk m m' p q) true).l a0 a1) = decide (a0 = (helS m p).length) := fun h => by rw [wy.greet (jy h).1 (jy h).2.1 (jy h).2.2, hy]
  have ax : ∀ {a0 a1 c0 c1}, Jm (helS m p).length (helS m' q).length a0 a1 c0 c1 → (wayX (hs0 true psk m p) (m'.l ++ pencS q) (proofS (shS psk m m' p q) false).l c0 c1).az = true := fun h => wx.keeps (fun Z => Z.az) (fun _ _ => rfl) true rfl rfl rfl (jx h).1 (jx h).2.1 (jx h).2.2
  have ay : ∀ {a0 a1 c0 c1}, Jm (helS m p).length (helS m' q).length a0 a1 c0 c1 → (wayX (hs0 false psk m' q) (m.l ++ pencS p) (proofS (shS psk m m' p q) true).l a0 a1).az = false := fun h => wy.keeps (fun Z => Z.az) (fun _ _ => rfl) false rfl rfl rfl (jy h).1 (jy h).2.1 (jy h).2.2
  have wnx : ∀ {a0 a1 c0 c1}, Jm (helS m p).length (helS m' q).length a0 a1 c0 c1 → (wayX (hs0 true psk m p) (m'.l ++ pencS q) (proofS (shS psk m m' p q) false).l c0 c1).own = helS m p := fun h => wx.keeps (fun Z => Z.own) (fun _ _ => rfl) (helS m p) rfl rfl rfl (jx h).1 (jx h).2.1 (jx h).2.2
  have wny : ∀ {a0 a1 c0 c1}, Jm (helS m p).length (helS m' q).length a0 a1 c0 c1 → (wayX (hs0 false psk m' q) (m.l ++ pencS p) (proofS (shS psk m m' p q) true).l a0 a1).own = helS m' q := fun h => wy.keeps (fun Z => Z.own) (fun _ _ => rfl) (helS m' q) rfl rfl rfl (jy h).1 (jy h).2.1 (jy h).2.2
  have l50p := pencS_50 p
  have l50q := pencS_50 q
  have lp : (helS m p).length = (pencS p).length + 11 := by rw [← hy, List.length_append]; show 8 + _ + 3 = _; omega
  have lq : (helS m' q).length = (pencS q).length + 11 := by rw [← hx, List.length_append]; show 8 + _ + 3 = _; omega
  have ex : wayX (hs0 true psk m p) (m'.l ++ pencS q) (proofS (shS psk m m' p q) false).l (helS m' q).length 11 = XeS psk m m' p q := by rw [← hx]; exact wx.last
  have ey : wayX (hs0 false psk m' q) (m.l ++ pencS p) (proofS (shS psk m m' p q) true).l (helS m p).length 11 = YeS psk m m' p q := by rw [← hy]; exact wy.last
  refine ⟨rfl, rfl, by rw [msgS_len]; rfl, by rw [msgS_len]; rfl, by omega, by omega, gx, gy, @fun a0 a1 c0 c1 h => ?_, @fun a0 a1 c0 c1 h => ?_, @fun a0 a1 c0 c1 h => ?_, @fun a0 a1 c0 c1 h => ?_, @fun a0 a1 c0 c1 h k hk => ?_, @fun a0 a1 c0 c1 h k hk => ?_, @fun a0 a1 c0 c1 h k hk => ?_, @fun a0 a1 c0 c1 h k hk => ?_, fun h => wx.code0 (jx h).1 (jx h).2.1 (jx h).2.2, fun h => wy.code0 (jy h).1 (jy h).2.1 (jy h).2.2, ?_, ?_, ?_, ?_, ?_, ?_, ?_, ?_⟩
  · unfold outS
    rw [if_pos ⟨rfl, .inl (ax h)⟩]
    exact wnx h
  · have hd := wx.done (jx h).1 (jx h).2.1 (jx h).2.2
    unfold outS finB
    rw [if_neg (by omega), ax h, if_pos rfl, hd]
    by_cases hc : c1 = 11
    · rw [if_pos ⟨rfl, by rw [decide_eq_true hc]⟩, if_pos hc]
      have h3 := h.cc (by omega)
      rw [hc, h3, ex]
      rfl
    · rw [if_neg (fun h => by rw [decide_eq_false hc] at h; exact Bool.noConfusion h.2), if_neg hc]
  · unfold outS
    rw [ay h, gy h]
    by_cases hc : a0 = (helS m p).length
    · rw [if_pos ⟨rfl, .inr (by rw [decide_eq_true hc])⟩, if_pos hc]
      exact wny h
    · rw [if_neg (fun h => by rw [decide_eq_false hc] at h; rcases h.2 with h | h <;> exact Bool.noConfusion h), if_neg (by omega), if_neg hc]
  · unfold outS finB
    rw [if_neg (by omega), ay h, if_neg (show ¬ (false = true) from Bool.noConfusion), gy h]
    by_cases hc : a0 = (helS m p).length
    · rw [if_pos ⟨rfl, by rw [decide_eq_true hc]⟩, if_pos hc]
      have hsh : (wayX (hs0 false psk m' q) (m.l ++ pencS p) (proofS (shS psk m m' p q) true).l a0 a1).sh = shS psk m m' p q := by
        rcases wy.cases (jy h).1 (jy h).2.1 (jy h).2.2 with ⟨k0, _, l, e⟩ | ⟨_, _, l, e⟩ | ⟨_, _, e⟩
        · omega
        · rw [e]; rfl
        · rw [e]; rfl
      rw [hsh]
    · rw [if_neg (fun h => by rw [decide_eq_false hc] at h; exact Bool.noConfusion h.2), if_neg hc]
  · by_cases h1 : 0 < a1
    · have e1 := h.ac h1
      have e2 := h.cc (by omega)
      have := h.n2
      have e3 := h.ca (by omega)
      obtain rfl : k = 0 := by omega
      rfl
    · obtain e1 := Nat.eq_zero_of_not_pos h1
      rw [e1]
      exact way_first _ k
  · by_cases h0 : a0 = (helS m p).length
    · rw [if_pos h0] at hk ⊢
      by_cases h1 : 0 < c1
      · have e2 := h.cc h1
        obtain rfl : k = 0 := by omega
        rfl
      · have e1 := Nat.eq_zero_of_not_pos h1
        rw [e1]
        exact way_first _ k
    · rw [if_neg h0] at hk ⊢
      obtain rfl : k = 0 := by omega
      rw [piece_nil]
      rfl
  · by_cases h0 : c1 = 11
    · rw [if_pos h0]
      exact way_second _ _ k
    · rw [if_neg h0] at hk ⊢
      obtain rfl : k = 0 := by omega
      rw [piece_nil]
      rfl
  · by_cases h0 : a0 = (helS m p).length
    · rw [if_pos h0]
      exact way_second _ _ k
    · rw [if_neg h0] at hk ⊢
      obtain rfl : k = 0 := by omega
      rw [piece_nil]
      rfl
  · show secS (wayX _ _ _ _ _) 1 = _
    rw [ex]; rfl
  · show secS (wayX _ _ _ _ _) 1 = _
    rw [ey]; rfl
  · show secS (wayX _ _ _ _ _) 2 = _
    rw [ex]; rfl
  · show secS (wayX _ _ _ _ _) 2 = _
    rw [ey]; rfl
  · show (wayX _ _ _ _ _).th = _
    rw [ex]; rfl
  · show (wayX _ _ _ _ _).th = _
    rw [ey]; rfl
  · show doneB (wayX _ _ _ _ _) = _
    rw [ex]; rfl
  · show doneB (wayX _ _ _ _ _) = _
    rw [ey]; rfl
end Go.Proofs.Ytdakbedohjemeaa
