/-
  SentThree: Within; which packets are acknowledged, lost, left.
-/
import Derived.Test.YtpihgikcgkipaaaUj
namespace Go.Proofs.Ytpihgikcgkipaaa
set_option linter.unusedVariables false
set_option linter.unusedSimpArgs false
open Go.RowKit
set_option maxHeartbeats 2000000 in
theorem within11_any (n lo hi : Int) (w : World) (hn : -9223372036854775808 ≤ n ∧ n < 9223372036854775808) (h0 : 0 ≤ lo) (h1 : lo ≤ hi) (h2 : hi ≤ 1000000) :
    Calls Try.prog 16 #[.int .i64 n, .int .i64 lo, .int .i64 hi] w fun e w' => ∃ r, e = .returned (.int .i64 r) ∧ lo ≤ r ∧ r ≤ hi ∧ w' = w := by
  have hd : 0 < hi - lo + 1 := by omega
  have ht1 : -(hi - lo + 1) < n.tmod (hi - lo + 1) := Int.lt_tmod_of_pos n hd
  have ht2 : n.tmod (hi - lo + 1) < hi - lo + 1 := Int.tmod_lt_of_pos n hd
  have hw1 : IntKind.i64.wrap (hi - lo) = hi - lo := by rw [IntKind.wrap_i64]; omega
  have hw2 : IntKind.i64.wrap (hi - lo + 1) = hi - lo + 1 := by rw [IntKind.wrap_i64]; omega
  obtain ⟨m, hm⟩ : ∃ m, n.tmod (hi - lo + 1) = m := ⟨_, rfl⟩
  rw [hm] at ht1 ht2
  have hz : ¬ hi - lo + 1 = 0 := by omega
  by_cases c1 : lo ≤ n
  · by_cases c2 : n ≤ hi
    · go_enter Try.func16, Try.ntmps16
      go_wp2
      go_ret
      exact ⟨_, rfl, c1, c2, rfl⟩
    · by_cases c3 : m < 0
      · go_enter Try.func16, Try.ntmps16
        go_wp2
        go_ret
        exact ⟨_, rfl, by omega, by omega, rfl⟩
      · go_enter Try.func16, Try.ntmps16
        go_wp2
        go_ret
        exact ⟨_, rfl, by omega, by omega, rfl⟩
  · by_cases c3 : m < 0
    · go_enter Try.func16, Try.ntmps16
      go_wp2
      go_ret
      exact ⟨_, rfl, by omega, by omega, rfl⟩
    · go_enter Try.func16, Try.ntmps16
      go_wp2
      go_ret
      exact ⟨_, rfl, by omega, by omega, rfl⟩
def tP (i : Nat) : PC := ⟨(i : Int), (i : Int), 10, true, 0⟩
def tC (k : Nat) : List PC := (List.range' 0 k).map tP
theorem tC_succ (i : Nat) : tC (i + 1) = tC i ++ [tP i] := by
  unfold tC
  rw [List.range'_1_concat, List.map_append, Nat.zero_add]
  rfl
theorem tC_len (k : Nat) : (tC k).length = k := by unfold tC; simp
theorem rg_split (a b c : Nat) : List.range' 0 (a + b + 1 + c) = List.range' 0 a ++ (List.range' a b ++ ([a + b] ++ List.range' (a + b + 1) c)) := by
  rw [show a + b + 1 + c = a + (b + (1 + c)) by omega]
  rw [← List.range'_append_1, ← List.range'_append_1, ← List.range'_append_1]
  simp
theorem tC_split (a b c : Nat) : tC (a + b + 1 + c) = (List.range' 0 a).map tP ++ ((List.range' a b).map tP ++ ([tP (a + b)] ++ (List.range' (a + b + 1) c).map tP)) := by
  unfold tC
  rw [rg_split]
  simp only [List.map_append, List.map_cons, List.map_nil]
theorem rg_mem {s m : Nat} {c : PC} (h : c ∈ (List.range' s m).map tP) : ∃ i, s ≤ i ∧ i < s + m ∧ c = tP i := by
  obtain ⟨i, hi, e⟩ := List.mem_map.1 h
  obtain ⟨h1, h2⟩ := List.mem_range'_1.1 hi
  exact ⟨i, h1, h2, e.symm⟩
theorem filt_yes (L : List PC) (f : Int → Bool) (h : ∀ c ∈ L, f c.n = true) : L.filter (fun c => f c.n) = L := List.filter_eq_self.2 h
theorem filt_no (L : List PC) (f : Int → Bool) (h : ∀ c ∈ L, f c.n = false) : L.filter (fun c => f c.n) = [] := List.filter_eq_nil_iff.2 (fun c hc => by rw [h c hc]; decide)
def oneR (j : Nat) : RL := [((j : Int), (j : Int) + 1)]
theorem oneR_has (j : Nat) (x : Int) : hasL (oneR j) x = decide (x = (j : Int)) := by
  unfold hasL oneR
  simp only [List.any_cons, List.any_nil, Bool.or_false]
  rw [← Bool.decide_and]
  exact decide_eq_decide.2 (by omega)
/-- One number acknowledged: what is taken, what is lost, what is left. -/
theorem three_got (a b c : Nat) : (tC (a + b + 1 + c)).filter (fun x => hasL (oneR (a + b)) x.n) = [tP (a + b)] := by
  rw [tC_split, List.filter_append, List.filter_append, List.filter_append]
  rw [filt_no _ (hasL (oneR (a + b))), filt_no _ (hasL (oneR (a + b))), filt_no ((List.range' (a + b + 1) c).map tP) (hasL (oneR (a + b))), filt_yes _ (hasL (oneR (a + b)))]
  · rfl
  · intro x hx
    rw [List.mem_singleton] at hx
    subst hx
    rw [oneR_has]; simp [tP]
  · intro x hx
    obtain ⟨i, h1, h2, rfl⟩ := rg_mem hx
    rw [oneR_has]; exact decide_eq_false (by unfold tP; simp only; omega)
  · intro x hx
    obtain ⟨i, h1, h2, rfl⟩ := rg_mem hx
    rw [oneR_has]; exact decide_eq_false (by unfold tP; simp only; omega)
  · intro x hx
    obtain ⟨i, h1, h2, rfl⟩ := rg_mem hx
    rw [oneR_has]; exact decide_eq_false (by unfold tP; simp only; omega)
theorem three_not (a b c : Nat) : (tC (a + b + 1 + c)).filter (fun x => !hasL (oneR (a + b)) x.n) = (List.range' 0 a).map tP ++ ((List.range' a b).map tP ++ (List.range' (a + b + 1) c).map tP) := by
  rw [tC_split, List.filter_append, List.filter_append, List.filter_append]
  rw [filt_yes _ (fun n => !hasL (oneR (a + b)) n), filt_yes _ (fun n => !hasL (oneR (a + b)) n), filt_yes ((List.range' (a + b + 1) c).map tP) (fun n => !hasL (oneR (a + b)) n), filt_no _ (fun n => !hasL (oneR (a + b)) n)]
  · rfl
  · intro x hx
    rw [List.mem_singleton] at hx
    subst hx
    rw [oneR_has]; simp [tP]
  · intro x hx
    obtain ⟨i, h1, h2, rfl⟩ := rg_mem hx
    rw [oneR_has, decide_eq_false (by unfold tP; simp only; omega)]; rfl
  · intro x hx
    obtain ⟨i, h1, h2, rfl⟩ := rg_mem hx
    rw [oneR_has, decide_eq_false (by unfold tP; simp only; omega)]; rfl
  · intro x hx
    obtain ⟨i, h1, h2, rfl⟩ := rg_mem hx
    rw [oneR_has, decide_eq_false (by unfold tP; simp only; omega)]; rfl
theorem three_lost (a b c : Nat) (hab : a + b < a + 3) (h0 : a = 0 ∨ b = 2) :
    ((List.range' 0 a).map tP ++ ((List.range' a b).map tP ++ (List.range' (a + b + 1) c).map tP)).filter (fun x => decide (x.n + 3 ≤ ((a + b : Nat) : Int))) = (List.range' 0 a).map tP := by
  rw [List.filter_append, List.filter_append]
  rw [filt_yes _ (fun n => decide (n + 3 ≤ ((a + b : Nat) : Int))), filt_no _ (fun n => decide (n + 3 ≤ ((a + b : Nat) : Int))), filt_no _ (fun n => decide (n + 3 ≤ ((a + b : Nat) : Int)))]
  · simp
  · intro x hx
    obtain ⟨i, h1, h2, rfl⟩ := rg_mem hx
    exact decide_eq_false (by unfold tP; simp only; omega)
  · intro x hx
    obtain ⟨i, h1, h2, rfl⟩ := rg_mem hx
    exact decide_eq_false (by unfold tP; simp only; omega)
  · intro x hx
    obtain ⟨i, h1, h2, rfl⟩ := rg_mem hx
    exact decide_eq_true (by unfold tP; simp only; omega)
theorem three_rest (a b c : Nat) (hab : a + b < a + 3) (h0 : a = 0 ∨ b = 2) :
    ((List.range' 0 a).map tP ++ ((List.range' a b).map tP ++ (List.range' (a + b + 1) c).map tP)).filter (fun x => !decide (x.n + 3 ≤ ((a + b : Nat) : Int))) = (List.range' a b).map tP ++ (List.range' (a + b + 1) c).map tP := by
  rw [List.filter_append, List.filter_append]
  rw [filt_no _ (fun n => !decide (n + 3 ≤ ((a + b : Nat) : Int))), filt_yes _ (fun n => !decide (n + 3 ≤ ((a + b : Nat) : Int))), filt_yes _ (fun n => !decide (n + 3 ≤ ((a + b : Nat) : Int)))]
  · simp
  · intro x hx
    obtain ⟨i, h1, h2, rfl⟩ := rg_mem hx
    rw [decide_eq_false (by unfold tP; simp only; omega)]; rfl
  · intro x hx
    obtain ⟨i, h1, h2, rfl⟩ := rg_mem hx
    rw [decide_eq_false (by unfold tP; simp only; omega)]; rfl
  · intro x hx
    obtain ⟨i, h1, h2, rfl⟩ := rg_mem hx
    rw [decide_eq_true (by unfold tP; simp only; omega)]; rfl
theorem rest_sum (L : List PC) (h : ∀ c ∈ L, c.s = 10) : (L.map PC.s).foldl (· + ·) 0 = 10 * (L.length : Int) := by
  induction L with
  | nil => rfl
  | cons c t ih =>
    have h1 := ih (fun x hx => h x (List.mem_cons_of_mem _ hx))
    rw [List.map_cons, List.foldl_cons, foldl_add, h1, h c (List.mem_cons_self ..), List.length_cons]
    omega
theorem rest_head (a b c : Nat) : ((List.range' a b).map tP ++ (List.range' (a + b + 1) c).map tP).head? = if 0 < b then some (tP a) else if 0 < c then some (tP (a + 1)) else none := by
  cases b with
  | zero => cases c <;> simp [List.range'_succ]
  | succ b => simp [List.range'_succ]
theorem rg_last (s m : Nat) : ((List.range' s m).map tP).getLast? = if 0 < m then some (tP (s + m - 1)) else none := by
  cases m with
  | zero => rfl
  | succ m =>
    rw [List.range'_1_concat]
    simp
theorem rest_last (a b c : Nat) : ((List.range' a b).map tP ++ (List.range' (a + b + 1) c).map tP).getLast? = if 0 < c then some (tP (a + b + c)) else if 0 < b then some (tP (a + b - 1)) else none := by
  rw [List.getLast?_append, rg_last, rg_last]
  by_cases hc : 0 < c
  · rw [if_pos hc, if_pos hc, show a + b + 1 + c - 1 = a + b + c by omega]; rfl
  · rw [if_neg hc, if_neg hc]; rfl
end Go.Proofs.Ytpihgikcgkipaaa
