/-
  outbuf.Buffer: Next, whole.
-/
import Derived.Test.YtoakahofiodbhaaDl
import Derived.Test.YtoakahofiodbhaaDm
import Derived.Test.YtoakahofiodbhaaDn
import Derived.Test.YtoakahofiodbhaaDo
namespace Go.Proofs.Ytoakahofiodbhaa
set_option linter.unusedVariables false
set_option linter.unusedSimpArgs false
open Go.RowKit
theorem gd_ext : ∀ {l l' : RL}, Gd l → Gd l' → (∀ j : Nat, hasL l (j : Int) = hasL l' (j : Int)) → l = l'
  | [], [], _, _, _ => rfl
  | [], s :: t, _, h2, he => by
    have ho := (gd_cons.1 h2).1
    unfold OkR at ho
    have := he s.1.toNat
    rw [has_true.2 ⟨s, List.mem_cons_self .., by omega, by omega⟩] at this
    cases this
  | r :: t, [], h1, _, he => by
    have ho := (gd_cons.1 h1).1
    unfold OkR at ho
    have := he r.1.toNat
    rw [has_true.2 ⟨r, List.mem_cons_self .., by omega, by omega⟩] at this
    cases this
  | r :: t, s :: t', h1, h2, he => by
    have o1 := gd_cons.1 h1
    have o2 := gd_cons.1 h2
    obtain ⟨p1, p2, p3⟩ := o1
    obtain ⟨q1, q2, q3⟩ := o2
    unfold OkR at p1 q1
    have s1 : Says (r :: t) (fun j => hasL (s :: t') (j : Int)) := he
    have s2 : Says (s :: t') (fun j => hasL (s :: t') (j : Int)) := fun j => rfl
    obtain ⟨a1, a2, a3⟩ := says_head h1 s1
    obtain ⟨b1, b2, b3⟩ := says_head h2 s2
    have e1 : r.1 = s.1 := by
      rcases Int.lt_trichotomy r.1 s.1 with h | h | h
      · have x := a2 r.1.toNat (by omega) (by omega)
        have y := b1 r.1.toNat (by omega)
        rw [x] at y; cases y
      · exact h
      · have x := b2 s.1.toNat (by omega) (by omega)
        have y := a1 s.1.toNat (by omega)
        rw [x] at y; cases y
    have e2 : r.2 = s.2 := by
      rcases Int.lt_trichotomy r.2 s.2 with h | h | h
      · have x := a3 r.2.toNat (by omega)
        have y := b2 r.2.toNat (by omega) (by omega)
        rw [x] at y; cases y
      · exact h
      · have x := b3 s.2.toNat (by omega)
        have y := a2 s.2.toNat (by omega) (by omega)
        rw [x] at y; cases y
    have e : r = s := Prod.ext e1 e2
    subst e
    have : t = t' := gd_ext p2 q2 fun j => by
      have hj := he j
      rw [has_cons, has_cons] at hj
      cases hin : inR r j with
      | false => rw [hin] at hj; simpa using hj
      | true =>
        have hr := (inR_iff r j).1 hin
        have no : ∀ l : RL, (∀ x ∈ l, r.2 < x.1) → hasL l (j : Int) = false := fun l hl => by
          cases hc : hasL l (j : Int) with
          | false => rfl
          | true =>
            obtain ⟨x, hx, k1, k2⟩ := has_true.1 hc
            have := hl x hx
            omega
        rw [no t p3, no t' q3]
    rw [this]
theorem onext_any {w : World} {base p : Nat} {O : Nat → Prop} {S : OS} (h : Of w base p O S) (hok : S.ok) (hb : base ≤ w.heap.size) (hL : S.bs.length ≤ 1099511627776) (most : Int) (hm : -9223372036854775808 ≤ most ∧ most < 9223372036854775808) (limit : Nat) (hl : limit < 18446744073709551616) :
    Calls Try.prog 14 #[.pointer (some ⟨p, 0, none⟩), .int .i64 most, .int .u64 limit] w (ONPost base p O S most.toNat limit w) := by
  obtain ⟨pa, pl, va, vl, vw, la, ll, hOO, hO, hy⟩ := h
  obtain ⟨lo, hi0, ok, h1, hle, hhl, hno, hyes, hbl, hge⟩ := next_ah hok hy most.toNat limit
  have h : Of w base p O S := ⟨pa, pl, va, vl, vw, la, ll, hOO, hO, hy⟩
  have hah : ∀ la' ll', Sa S la' ll' → ahO S ll' limit = (((lo : Int), (hi0 : Int)), ok) := fun la' ll' hy' => by
    have e : ll' = ll := gd_ext hy'.gl hy.gl fun j => by rw [hy'.yl, hy.yl]
    rw [e]
    exact h1
  clear h1
  cases ok with
  | false => exact onext_no h hok hL most hm limit hl lo hi0 false hah (.inl rfl) (hno (.inl rfl))
  | true =>
    by_cases hc : most < 1 ∧ lo < hi0
    · exact onext_no h hok hL most hm limit hl lo hi0 true hah (.inr hc) (hno (.inr ⟨by omega, hc.2⟩))
    · have hr0 := hyes rfl (by omega)
      have hr : ∀ hi, hi = min hi0 (lo + most.toNat) → nextR S most.toNat limit = ⟨lo, hi - lo, decide (hi = S.bs.length) && endO S, true⟩ := fun hi e => by subst e; exact hr0
      clear hr0
      rcases Int.lt_or_le most 0 with h0 | h0
      · have hlo : hi0 = lo := by omega
        exact onext_s1 h hok hb hL most ⟨hm.1, h0⟩ limit hl lo hi0 lo hah (Nat.le_refl _) (by omega) (by omega) (hbl rfl) (fun _ => hge rfl hlo.symm) rfl hlo (hr lo (by omega))
      · obtain ⟨M, rfl⟩ : ∃ M : Nat, most = (M : Int) := ⟨most.toNat, by omega⟩
        rcases Nat.eq_zero_or_pos M with hz | hz
        · subst hz
          have hlo : hi0 = lo := by omega
          exact onext_s4 h hok hb hL limit hl lo hi0 lo hah (Nat.le_refl _) (by omega) (by omega) (hbl rfl) (fun _ => hge rfl hlo.symm) rfl hlo (hr lo (by omega))
        · rcases Nat.lt_or_ge (lo + M) hi0 with h2 | h2
          · exact onext_s2 h hok hb hL M (by omega) limit hl lo hi0 (lo + M) hah (by omega) (by omega) (by omega) (hbl rfl) (fun e => by omega) rfl h2 hz (hr (lo + M) (by omega))
          · exact onext_s3 h hok hb hL M (by omega) limit hl lo hi0 hi0 hah hle (by omega) (by omega) (hbl rfl) (fun e => hge rfl e) rfl h2 hz (hr hi0 (by omega))
end Go.Proofs.Ytoakahofiodbhaa
