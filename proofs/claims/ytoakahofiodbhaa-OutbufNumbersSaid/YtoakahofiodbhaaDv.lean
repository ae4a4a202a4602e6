/-
  The document's buffer: from (what would be sent).
-/
import Derived.Test.YtoakahofiodbhaaDu
namespace Go.Proofs.Ytoakahofiodbhaa
set_option linter.unusedVariables false
set_option linter.unusedSimpArgs false
open Go.RowKit
section
variable {w : World} {base q o : Nat} {T : TypeId} {L : List Value} {O : Nat → Prop} {S : OS}
theorem first_is {S : OS} {i : Nat} (hi : i < S.gn) (h : ∀ j, j < i → S.ag j = false) (ha : S.ag i = true) : firstO S = i :=
  runF_is (by omega) (fun j hj => by rw [Nat.zero_add, h j hj]; rfl) fun _ => by rw [Nat.zero_add, ha]; rfl
theorem first_gn {S : OS} (h : ∀ j, j < S.gn → S.ag j = false) : firstO S = S.gn :=
  runF_is (Nat.le_refl _) (fun j hj => by rw [Nat.zero_add, h j hj]; rfl) fun hl => absurd hl (by omega)
def frV (p : Nat × Nat) : Value := .tuple #[.int .i64 p.1, .int .i64 p.2]
set_option maxHeartbeats 16000000 in
set_option maxRecDepth 100000 in
theorem rfrom_any (h : Rs w base q o T L O S) (hok : S.ok) (hL : S.bs.length ≤ 1000000) (M limit : Nat) (hM : M < 4611686018427387904) (hl : limit < 18446744073709551616) : Calls Try.prog 34 #[.pointer (some ⟨q, o, none⟩), .int .i64 M, .int .u64 limit] w fun e w' => e = .returned (frV (fromO S M limit)) ∧ ∃ d, w' = w.drewN d := by
  obtain ⟨Ab, cb, Aa, ca, Ag, cg, C, A, _, hr, hf, l1, l2⟩ := h.open_
  have c0 := hr.c0
  have c1 := hr.cell 1 rfl
  have c2 := hr.cell 2 rfl
  have c3 := hr.cell 3 rfl
  obtain ⟨hfc, aw, hfa, hag, haw⟩ := hf
  have hgl := hok.gl
  have HC : Hid (∀ i, i < S.bs.length → ∃ g, Aa = some ⟨g, 0, none⟩ ∧ w.cell? ⟨g, i, none⟩ = some (.bool (S.ak i))) := Lib.hid (fun i hi => by
    obtain ⟨g, h1, h2, _⟩ := owb_get hr.oa (i := i) (b := S.ak i) (by rw [hfc]; exact tabB_get _ _ _ hi)
    exact ⟨g, h1, h2⟩)
  have HG : Hid (∀ i, i < S.bs.length → ∃ g, Ag = some ⟨g, 0, none⟩ ∧ w.cell? ⟨g, i, none⟩ = some (.bool (aw i))) := Lib.hid (fun i hi => by
    obtain ⟨g, h1, h2, _⟩ := owb_get hr.og (i := i) (b := aw i) (by rw [hfa]; exact tabB_get _ _ _ hi)
    exact ⟨g, h1, h2⟩)
  have HF1 : Hid (∀ i, i < S.gn → (∀ j, j < i → S.ag j = false) → S.ag i = true → fromO S M limit = (i, i + runF S.ag i (min M (S.gn - i)))) := Lib.hid (fun i hi h1 h2 => by
    unfold fromO
    rw [first_is hi h1 h2, if_pos hi])
  have HF2 : Hid ((∀ j, j < S.gn → S.ag j = false) → fromO S M limit = (S.gn, max S.gn (min (min S.bs.length limit) (S.gn + M)))) := Lib.hid (fun h1 => by
    unfold fromO
    rw [first_gn h1, if_neg (by omega)])
  have HRN : Hid (∀ i t, t ≤ runF S.ag i (min M (S.gn - i)) → t < runF S.ag i (min M (S.gn - i)) → S.ag (i + t) = true) := Lib.hid (fun i t _ h2 => runF_all S.ag _ i t h2)
  have HRL := Lib.hid (fun i => runF_le S.ag (min M (S.gn - i)) i)
  have HRS := Lib.hid (fun i (h : runF S.ag i (min M (S.gn - i)) < min M (S.gn - i)) => runF_stop S.ag _ i h)
  have HAG := Lib.hid hag
  clear hr hfc hfa hag haw h hok
  have hwl : ∀ x : Nat, x ≤ 1000000 → IntKind.i64.wrap (x : Int) = (x : Int) := fun x hx => by rw [IntKind.wrap_i64]; omega
  have HWL := Lib.hid hwl
  clear hwl
  have wlen : IntKind.u64.wrap (S.bs.length : Int) = (S.bs.length : Int) := by rw [IntKind.wrap_u64]; omega
  generalize fromO S M limit = R at *
  generalize S.bs.length = n at *
  generalize S.gn = gn at *
  go_enter Try.func34, Try.ntmps34
  go_wp2
  go_loopg [8] gn (fun kx s8 wr => ∃ i : Nat, s8 = .int .i64 i ∧ i ≤ gn ∧ gn - i ≤ kx ∧ wr = w ∧ Hid (∀ j, j < i → S.ag j = false))
  case atStart => exact ⟨0, rfl, Nat.zero_le _, by omega, rfl, Lib.hid (fun j hj => absurd hj (by omega))⟩
  case round =>
    obtain ⟨i, rfl, hig, hkx, rfl, hno⟩ := hrel
    rcases Nat.lt_or_ge i gn with hi | hi
    · have hiz : (i : Int) < (gn : Int) := by omega
      have hin : (i : Int) < (n : Int) := by omega
      obtain ⟨g1, hA1, k1⟩ := HG.out i (by omega)
      obtain ⟨g2, hA2, k2⟩ := HC.out i (by omega)
      subst hA1
      subst hA2
      have hai := HAG.out i
      cases h1 : aw i with
      | false =>
        rw [h1] at k1 hai
        have HNO : Hid (∀ j, j < i + 1 → S.ag j = false) := Lib.hid (fun j hj => by
          rcases Nat.lt_or_ge j i with h | h
          · exact hno.out j h
          · obtain rfl : j = i := by omega
            rw [hai]; rfl)
        clear hai h1
        go_wp2
        go_roundg (gn - (i + 1))
        case measure => omega
        case rel => exact ⟨i + 1, by simp, by omega, Nat.le_refl _, rfl, HNO⟩
      | true =>
        cases h2 : S.ak i with
        | true =>
          rw [h1] at k1 hai
          rw [h2] at k2 hai
          have HNO : Hid (∀ j, j < i + 1 → S.ag j = false) := Lib.hid (fun j hj => by
            rcases Nat.lt_or_ge j i with h | h
            · exact hno.out j h
            · obtain rfl : j = i := by omega
              rw [hai]; rfl)
          clear hai h1 h2
          go_wp2
          go_roundg (gn - (i + 1))
          case measure => omega
          case rel => exact ⟨i + 1, by simp, by omega, Nat.le_refl _, rfl, HNO⟩
        | false =>
          rw [h1] at k1 hai
          rw [h2] at k2 hai
          have HR := Lib.hid (HF1.out i hi hno.out (by rw [hai]; rfl))
          clear hai h1 h2 hno
          go_wp2
          obtain ⟨rl, hrl⟩ : ∃ rl, rl = runF S.ag i (min M (gn - i)) := ⟨_, rfl⟩
          have HRLE : Hid (rl = runF S.ag i (min M (gn - i))) := Lib.hid hrl
          rw [← hrl] at HR
          clear hrl
          generalize hwo : wr = wo at *
          have HWO := Lib.hid hwo
          clear hwo
          go_loopg [9] gn (fun ky s9 wi => ∃ t : Nat, s9 = .int .i64 (i + t : Nat) ∧ t ≤ rl ∧ gn - t ≤ ky ∧ wi = wo)
          case atStart => exact ⟨0, rfl, Nat.zero_le _, by omega, rfl⟩
          case round =>
            obtain ⟨t, rfl, htr, hky, rfl⟩ := hrel
            have hrm : rl ≤ min M (gn - i) := by rw [HRLE.out]; exact HRL.out i
            obtain ⟨k, hk⟩ : ∃ k, k = i + t := ⟨_, rfl⟩
            rw [← hk]
            have zki : (k : Int) - (i : Int) = (t : Int) := by omega
            have HKT := Lib.hid hk
            have hkb : k ≤ 1000000 := by omega
            have htb : t ≤ 1000000 := by omega
            have htM : t ≤ M := by omega
            rcases Nat.lt_or_ge t rl with ht | ht
            · have hkg : (k : Int) < (gn : Int) := by omega
              have htm : (t : Int) < (M : Int) := by omega
              have hkn : (k : Int) < (n : Int) := by omega
              have hak : S.ag k = true := by
                rw [hk]
                exact HRN.out i t (by rw [← HRLE.out]; omega) (by rw [← HRLE.out]; exact ht)
              obtain ⟨g3, hA3, k3⟩ := HG.out k (by omega)
              obtain ⟨g4, hA4, k4⟩ := HC.out k (by omega)
              injection hA3 with hA3
              injection hA3 with hA3
              injection hA4 with hA4
              injection hA4 with hA4
              subst hA3
              subst hA4
              rw [HAG.out k, Bool.and_eq_true] at hak
              rw [hak.1] at k3
              rw [show S.ak k = false by have := hak.2; simpa using this] at k4
              clear hak hk hrm
              go_wp2
              go_roundg (gn - (t + 1))
              case measure => omega
              case rel => exact ⟨t + 1, by have := HKT.out; congr 1; omega, by omega, Nat.le_refl _, rfl⟩
            · obtain rfl : t = rl := by omega
              have hRk : R = (i, k) := by rw [HR.out, HKT.out]
              clear hk hrm
              by_cases h5 : k < gn
              · have hkg : (k : Int) < (gn : Int) := by omega
                have hkn : (k : Int) < (n : Int) := by omega
                by_cases h6 : t < M
                · have htm : (t : Int) < (M : Int) := by omega
                  have hak : S.ag k = false := by
                    rw [HKT.out, HRLE.out]
                    refine HRS.out i ?_
                    have := HRLE.out
                    have := HKT.out
                    omega
                  obtain ⟨g3, hA3, k3⟩ := HG.out k (by omega)
                  obtain ⟨g4, hA4, k4⟩ := HC.out k (by omega)
                  injection hA3 with hA3
                  injection hA3 with hA3
                  injection hA4 with hA4
                  injection hA4 with hA4
                  subst hA3
                  subst hA4
                  rw [HAG.out k] at hak
                  have HRk := Lib.hid hRk
                  cases h7 : aw k with
                  | false =>
                    rw [h7] at k3
                    clear hak h7 hRk
                    go_wp2
                    go_ret2
                    exact ⟨by rw [HRk.out]; rfl, 0, HWO.out.symm⟩
                  | true =>
                    rw [h7] at k3 hak
                    have h8 : S.ak k = true := by simpa using hak
                    rw [h8] at k4
                    clear hak h7 h8 hRk
                    go_wp2
                    go_ret2
                    exact ⟨by rw [HRk.out]; rfl, 0, HWO.out.symm⟩
                · have htm : ¬ (t : Int) < (M : Int) := by omega
                  have HRk := Lib.hid hRk
                  clear hRk
                  go_wp2
                  go_ret2
                  exact ⟨by rw [HRk.out]; rfl, 0, HWO.out.symm⟩
              · have hkg : ¬ (k : Int) < (gn : Int) := by omega
                have HRk := Lib.hid hRk
                clear hRk
                go_wp2
                go_ret2
                exact ⟨by rw [HRk.out]; rfl, 0, HWO.out.symm⟩
    · obtain rfl : i = gn := by omega
      have hiz : ¬ (i : Int) < (i : Int) := by omega
      have HR := Lib.hid (HF2.out hno.out)
      have hMz : ¬ (M : Int) < 0 := by omega
      obtain ⟨y, hy⟩ : ∃ y, y = i + M := ⟨_, rfl⟩
      have zy : (i : Int) + (M : Int) = (y : Int) := by omega
      have wy : IntKind.i64.wrap (y : Int) = (y : Int) := by rw [IntKind.wrap_i64]; omega
      have hyb : y < 9223372036854775808 := by omega
      rcases Nat.lt_or_ge limit n with h1 | h1
      · have h1z : (limit : Int) < (n : Int) := by omega
        have wl := HWL.out limit (by omega)
        rcases Nat.lt_or_ge y limit with h2 | h2
        · have h2z : (y : Int) < (limit : Int) := by omega
          rcases Nat.lt_or_ge i y with h3 | h3
          · have h3z : (i : Int) < (y : Int) := by omega
            have hRk : R = (i, y) := by rw [HR.out]; congr 1; omega
            have HRk := Lib.hid hRk
            clear hRk hy
            go_wp2
            have hMz : ¬ (M : Int) < 0 := by omega
            have h2z : (y : Int) < (limit : Int) := by omega
            have h3z : (i : Int) < (y : Int) := by omega
            go_quiet (fail)
            go_wp2
            go_ret2
            exact ⟨by rw [HRk.out]; rfl, _, rfl⟩
          · have h3z : ¬ (i : Int) < (y : Int) := by omega
            have hRk : R = (i, i) := by rw [HR.out]; congr 1; omega
            have HRk := Lib.hid hRk
            clear hRk hy
            go_wp2
            have hMz : ¬ (M : Int) < 0 := by omega
            have h2z : (y : Int) < (limit : Int) := by omega
            have h3z : ¬ (i : Int) < (y : Int) := by omega
            go_quiet (fail)
            go_wp2
            go_ret2
            exact ⟨by rw [HRk.out]; rfl, _, rfl⟩
        · have h2z : ¬ (y : Int) < (limit : Int) := by omega
          rcases Nat.lt_or_ge i limit with h3 | h3
          · have h3z : (i : Int) < (limit : Int) := by omega
            have hRk : R = (i, limit) := by rw [HR.out]; congr 1; omega
            have HRk := Lib.hid hRk
            clear hRk hy
            go_wp2
            have hMz : ¬ (M : Int) < 0 := by omega
            have h2z : ¬ (y : Int) < (limit : Int) := by omega
            have h3z : (i : Int) < (limit : Int) := by omega
            go_quiet (fail)
            go_wp2
            go_ret2
            exact ⟨by rw [HRk.out]; rfl, _, rfl⟩
          · have h3z : ¬ (i : Int) < (limit : Int) := by omega
            have hRk : R = (i, i) := by rw [HR.out]; congr 1; omega
            have HRk := Lib.hid hRk
            clear hRk hy
            go_wp2
            have hMz : ¬ (M : Int) < 0 := by omega
            have h2z : ¬ (y : Int) < (limit : Int) := by omega
            have h3z : ¬ (i : Int) < (limit : Int) := by omega
            go_quiet (fail)
            go_wp2
            go_ret2
            exact ⟨by rw [HRk.out]; rfl, _, rfl⟩
      · have h1z : ¬ (limit : Int) < (n : Int) := by omega
        rcases Nat.lt_or_ge y n with h2 | h2
        · have h2z : (y : Int) < (n : Int) := by omega
          rcases Nat.lt_or_ge i y with h3 | h3
          · have h3z : (i : Int) < (y : Int) := by omega
            have hRk : R = (i, y) := by rw [HR.out]; congr 1; omega
            have HRk := Lib.hid hRk
            clear hRk hy
            go_wp2
            have hMz : ¬ (M : Int) < 0 := by omega
            have h2z : (y : Int) < (n : Int) := by omega
            have h3z : (i : Int) < (y : Int) := by omega
            go_quiet (fail)
            go_wp2
            go_ret2
            exact ⟨by rw [HRk.out]; rfl, _, rfl⟩
          · have h3z : ¬ (i : Int) < (y : Int) := by omega
            have hRk : R = (i, i) := by rw [HR.out]; congr 1; omega
            have HRk := Lib.hid hRk
            clear hRk hy
            go_wp2
            have hMz : ¬ (M : Int) < 0 := by omega
            have h2z : (y : Int) < (n : Int) := by omega
            have h3z : ¬ (i : Int) < (y : Int) := by omega
            go_quiet (fail)
            go_wp2
            go_ret2
            exact ⟨by rw [HRk.out]; rfl, _, rfl⟩
        · have h2z : ¬ (y : Int) < (n : Int) := by omega
          rcases Nat.lt_or_ge i n with h3 | h3
          · have h3z : (i : Int) < (n : Int) := by omega
            have hRk : R = (i, n) := by rw [HR.out]; congr 1; omega
            have HRk := Lib.hid hRk
            clear hRk hy
            go_wp2
            have hMz : ¬ (M : Int) < 0 := by omega
            have h2z : ¬ (y : Int) < (n : Int) := by omega
            have h3z : (i : Int) < (n : Int) := by omega
            go_quiet (fail)
            go_wp2
            go_ret2
            exact ⟨by rw [HRk.out]; rfl, _, rfl⟩
          · have h3z : ¬ (i : Int) < (n : Int) := by omega
            have hRk : R = (i, i) := by rw [HR.out]; congr 1; omega
            have HRk := Lib.hid hRk
            clear hRk hy
            go_wp2
            have hMz : ¬ (M : Int) < 0 := by omega
            have h2z : ¬ (y : Int) < (n : Int) := by omega
            have h3z : ¬ (i : Int) < (n : Int) := by omega
            go_quiet (fail)
            go_wp2
            go_ret2
            exact ⟨by rw [HRk.out]; rfl, _, rfl⟩
end
end Go.Proofs.Ytoakahofiodbhaa
