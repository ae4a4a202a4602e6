/-
  param.taken.take: what stands behind a name.
-/
import Derived.Test.YtdakbedohjemeaaPt
import Derived.Test.YtdakbedohjemeaaMq6
import Derived.Test.YtdakbedohjemeaaMq7
namespace Go.Proofs.Ytdakbedohjemeaa
section
set_option linter.unusedVariables false
set_option linter.unusedSimpArgs false
open Go.RowKit Go.ChangeShapes Go.WideShapes Go.Deep
def TakenPost (w : World) (g : Nat) (t : TK) (id : Int) (bs : List Int) (e : Ending) (w' : World) : Prop :=
  e = .returned (.bool (takeS t id bs).isSome) ∧ (∀ t', takeS t id bs = some t' → At w' g 124 (tkL t')) ∧ (∃ l', At w' g 124 l') ∧ Kept (· = g) w w'
theorem TakenPost.no {w w' : World} {g : Nat} {t : TK} {id : Int} {bs : List Int} {l : List Value} (h : takeS t id bs = none) (hA : At w' g 124 l) (hk : Kept (· = g) w w') : TakenPost w g t id bs (.returned (.bool false)) w' := by
  unfold TakenPost; rw [h]; exact ⟨rfl, by simp, ⟨l, hA⟩, hk⟩
theorem TakenPost.yes {w w' : World} {g : Nat} {t t' : TK} {id : Int} {bs : List Int} (h : takeS t id bs = some t') (hA : At w' g 124 (tkL t')) (hk : Kept (· = g) w w') : TakenPost w g t id bs (.returned (.bool true)) w' := by
  unfold TakenPost; rw [h]; exact ⟨rfl, fun t'' e => by injection e with e; rw [← e]; exact hA, ⟨_, hA⟩, hk⟩
set_option maxRecDepth 100000 in
set_option maxHeartbeats 1000000 in
theorem take_1 (g : Nat) (t : TK) (A : Option Addr) (n c : Nat) (bs : List Int) (w : World) (hA : At w g 124 (tkL t)) (hr : RdP w (· ≠ g) A n bs) (hn : n ≤ 1000000) (hAc : A = none → c = 0) :
    Calls Try.prog 92 #[.pointer (some ⟨g, 0, none⟩), .int .u64 1, .slice A n c] w (TakenPost w g t 1 bs) := by
  have hS : takeS t 1 bs = if !t.i && numOk bs then some ⟨⟨numV bs, t.p.d, t.p.s, t.p.m, t.p.c⟩, t.z, true, t.d, t.s, t.m⟩ else none := rfl
  cases hc : t.i with
  | true =>
    have HN := Lib.hid (show takeS t 1 bs = none by rw [hS, hc]; rfl)
    clear hS
    have hon := once_any g _ (tkL t) 1 1 rfl (by decide) true w hA (by rw [← hc]; rfl)
    go_enter Try.func92, Try.ntmps92
    go_wp2_with fail
    refine hon.mono ?_
    rintro e w1 ⟨rfl, hA1, hk1⟩
    go_wp2_with fail
    go_ret
    exact TakenPost.no HN.out hA1 hk1
  | false =>
    rw [hc] at hS
    have hon := once_any g _ (tkL t) 1 1 rfl (by decide) false w hA (by rw [← hc]; rfl)
    have hrn := fun W => rnum_any g 0 124 ((tkL t).set 13 (.bool true)) (.int .u64 t.p.i) rfl A n c bs W
    have hfin : ((tkL t).set 13 (.bool true)).set 0 (.int .u64 (numV bs)) = tkL ⟨⟨numV bs, t.p.d, t.p.s, t.p.m, t.p.c⟩, t.z, true, t.d, t.s, t.m⟩ := rfl
    rw [hfin] at hrn
    clear hfin
    obtain ⟨t', ht'⟩ : ∃ x, (⟨⟨numV bs, t.p.d, t.p.s, t.p.m, t.p.c⟩, t.z, true, t.d, t.s, t.m⟩ : TK) = x := ⟨_, rfl⟩
    rw [ht'] at hrn hS
    obtain ⟨b, hb⟩ : ∃ b, numOk bs = b := ⟨_, rfl⟩
    rw [hb] at hrn hS
    have HS := Lib.hid hS
    have HRN := Lib.hid hrn
    clear ht' hb hS hrn
    go_enter Try.func92, Try.ntmps92
    go_wp2_with fail
    refine hon.mono ?_
    rintro e w1 ⟨rfl, hA1, hk1⟩
    have hr1 := (hr.kept hk1 (fun b hb => hb)).1
    have h2 := HRN.out w1 hA1 hr1 hn hAc
    clear HRN hon
    go_wp2_with fail
    refine h2.mono ?_
    rintro e w2 ⟨rfl, hA2, hk2⟩
    cases b with
    | true =>
      go_wp2_with fail
      go_ret
      exact TakenPost.yes HS.out hA2 (hk1.trans hk2)
    | false =>
      go_wp2_with fail
      go_ret
      exact TakenPost.no HS.out hA2 (hk1.trans hk2)
set_option maxRecDepth 100000 in
set_option maxHeartbeats 1000000 in
theorem take_4 (g : Nat) (t : TK) (A : Option Addr) (n c : Nat) (bs : List Int) (w : World) (hA : At w g 124 (tkL t)) (hr : RdP w (· ≠ g) A n bs) (hn : n ≤ 1000000) (hAc : A = none → c = 0) :
    Calls Try.prog 92 #[.pointer (some ⟨g, 0, none⟩), .int .u64 4, .slice A n c] w (TakenPost w g t 4 bs) := by
  have hS : takeS t 4 bs = if !t.d && numOk bs then some ⟨⟨t.p.i, numV bs, t.p.s, t.p.m, t.p.c⟩, t.z, t.i, true, t.s, t.m⟩ else none := rfl
  cases hc : t.d with
  | true =>
    have HN := Lib.hid (show takeS t 4 bs = none by rw [hS, hc]; rfl)
    clear hS
    have hon := once_any g _ (tkL t) 4 4 rfl (by decide) true w hA (by rw [← hc]; rfl)
    go_enter Try.func92, Try.ntmps92
    go_wp2_with fail
    refine hon.mono ?_
    rintro e w1 ⟨rfl, hA1, hk1⟩
    go_wp2_with fail
    go_ret
    exact TakenPost.no HN.out hA1 hk1
  | false =>
    rw [hc] at hS
    have hon := once_any g _ (tkL t) 4 4 rfl (by decide) false w hA (by rw [← hc]; rfl)
    have hrn := fun W => rnum_any g 1 124 ((tkL t).set 16 (.bool true)) (.int .u64 t.p.d) rfl A n c bs W
    have hfin : ((tkL t).set 16 (.bool true)).set 1 (.int .u64 (numV bs)) = tkL ⟨⟨t.p.i, numV bs, t.p.s, t.p.m, t.p.c⟩, t.z, t.i, true, t.s, t.m⟩ := rfl
    rw [hfin] at hrn
    clear hfin
    obtain ⟨t', ht'⟩ : ∃ x, (⟨⟨t.p.i, numV bs, t.p.s, t.p.m, t.p.c⟩, t.z, t.i, true, t.s, t.m⟩ : TK) = x := ⟨_, rfl⟩
    rw [ht'] at hrn hS
    obtain ⟨b, hb⟩ : ∃ b, numOk bs = b := ⟨_, rfl⟩
    rw [hb] at hrn hS
    have HS := Lib.hid hS
    have HRN := Lib.hid hrn
    clear ht' hb hS hrn
    go_enter Try.func92, Try.ntmps92
    go_wp2_with fail
    refine hon.mono ?_
    rintro e w1 ⟨rfl, hA1, hk1⟩
    have hr1 := (hr.kept hk1 (fun b hb => hb)).1
    have h2 := HRN.out w1 hA1 hr1 hn hAc
    clear HRN hon
    go_wp2_with fail
    refine h2.mono ?_
    rintro e w2 ⟨rfl, hA2, hk2⟩
    cases b with
    | true =>
      go_wp2_with fail
      go_ret
      exact TakenPost.yes HS.out hA2 (hk1.trans hk2)
    | false =>
      go_wp2_with fail
      go_ret
      exact TakenPost.no HS.out hA2 (hk1.trans hk2)
set_option maxRecDepth 100000 in
set_option maxHeartbeats 1000000 in
theorem take_5 (g : Nat) (t : TK) (A : Option Addr) (n c : Nat) (bs : List Int) (w : World) (hA : At w g 124 (tkL t)) (hr : RdP w (· ≠ g) A n bs) (hn : n ≤ 1000000) (hAc : A = none → c = 0) :
    Calls Try.prog 92 #[.pointer (some ⟨g, 0, none⟩), .int .u64 5, .slice A n c] w (TakenPost w g t 5 bs) := by
  have hS : takeS t 5 bs = if !t.s && numOk bs then some ⟨⟨t.p.i, t.p.d, numV bs, t.p.m, t.p.c⟩, t.z, t.i, t.d, true, t.m⟩ else none := rfl
  cases hc : t.s with
  | true =>
    have HN := Lib.hid (show takeS t 5 bs = none by rw [hS, hc]; rfl)
    clear hS
    have hon := once_any g _ (tkL t) 5 5 rfl (by decide) true w hA (by rw [← hc]; rfl)
    go_enter Try.func92, Try.ntmps92
    go_wp2_with fail
    refine hon.mono ?_
    rintro e w1 ⟨rfl, hA1, hk1⟩
    go_wp2_with fail
    go_ret
    exact TakenPost.no HN.out hA1 hk1
  | false =>
    rw [hc] at hS
    have hon := once_any g _ (tkL t) 5 5 rfl (by decide) false w hA (by rw [← hc]; rfl)
    have hrn := fun W => rnum_any g 2 124 ((tkL t).set 17 (.bool true)) (.int .u64 t.p.s) rfl A n c bs W
    have hfin : ((tkL t).set 17 (.bool true)).set 2 (.int .u64 (numV bs)) = tkL ⟨⟨t.p.i, t.p.d, numV bs, t.p.m, t.p.c⟩, t.z, t.i, t.d, true, t.m⟩ := rfl
    rw [hfin] at hrn
    clear hfin
    obtain ⟨t', ht'⟩ : ∃ x, (⟨⟨t.p.i, t.p.d, numV bs, t.p.m, t.p.c⟩, t.z, t.i, t.d, true, t.m⟩ : TK) = x := ⟨_, rfl⟩
    rw [ht'] at hrn hS
    obtain ⟨b, hb⟩ : ∃ b, numOk bs = b := ⟨_, rfl⟩
    rw [hb] at hrn hS
    have HS := Lib.hid hS
    have HRN := Lib.hid hrn
    clear ht' hb hS hrn
    go_enter Try.func92, Try.ntmps92
    go_wp2_with fail
    refine hon.mono ?_
    rintro e w1 ⟨rfl, hA1, hk1⟩
    have hr1 := (hr.kept hk1 (fun b hb => hb)).1
    have h2 := HRN.out w1 hA1 hr1 hn hAc
    clear HRN hon
    go_wp2_with fail
    refine h2.mono ?_
    rintro e w2 ⟨rfl, hA2, hk2⟩
    cases b with
    | true =>
      go_wp2_with fail
      go_ret
      exact TakenPost.yes HS.out hA2 (hk1.trans hk2)
    | false =>
      go_wp2_with fail
      go_ret
      exact TakenPost.no HS.out hA2 (hk1.trans hk2)
set_option maxRecDepth 100000 in
set_option maxHeartbeats 1000000 in
theorem take_8 (g : Nat) (t : TK) (A : Option Addr) (n c : Nat) (bs : List Int) (w : World) (hA : At w g 124 (tkL t)) (hr : RdP w (· ≠ g) A n bs) (hn : n ≤ 1000000) (hAc : A = none → c = 0) :
    Calls Try.prog 92 #[.pointer (some ⟨g, 0, none⟩), .int .u64 8, .slice A n c] w (TakenPost w g t 8 bs) := by
  have hS : takeS t 8 bs = if !t.m && numOk bs then some ⟨⟨t.p.i, t.p.d, t.p.s, numV bs, t.p.c⟩, t.z, t.i, t.d, t.s, true⟩ else none := rfl
  cases hc : t.m with
  | true =>
    have HN := Lib.hid (show takeS t 8 bs = none by rw [hS, hc]; rfl)
    clear hS
    have hon := once_any g _ (tkL t) 8 8 rfl (by decide) true w hA (by rw [← hc]; rfl)
    go_enter Try.func92, Try.ntmps92
    go_wp2_with fail
    refine hon.mono ?_
    rintro e w1 ⟨rfl, hA1, hk1⟩
    go_wp2_with fail
    go_ret
    exact TakenPost.no HN.out hA1 hk1
  | false =>
    rw [hc] at hS
    have hon := once_any g _ (tkL t) 8 8 rfl (by decide) false w hA (by rw [← hc]; rfl)
    have hrn := fun W => rnum_any g 3 124 ((tkL t).set 20 (.bool true)) (.int .u64 t.p.m) rfl A n c bs W
    have hfin : ((tkL t).set 20 (.bool true)).set 3 (.int .u64 (numV bs)) = tkL ⟨⟨t.p.i, t.p.d, t.p.s, numV bs, t.p.c⟩, t.z, t.i, t.d, t.s, true⟩ := rfl
    rw [hfin] at hrn
    clear hfin
    obtain ⟨t', ht'⟩ : ∃ x, (⟨⟨t.p.i, t.p.d, t.p.s, numV bs, t.p.c⟩, t.z, t.i, t.d, t.s, true⟩ : TK) = x := ⟨_, rfl⟩
    rw [ht'] at hrn hS
    obtain ⟨b, hb⟩ : ∃ b, numOk bs = b := ⟨_, rfl⟩
    rw [hb] at hrn hS
    have HS := Lib.hid hS
    have HRN := Lib.hid hrn
    clear ht' hb hS hrn
    go_enter Try.func92, Try.ntmps92
    go_wp2_with fail
    refine hon.mono ?_
    rintro e w1 ⟨rfl, hA1, hk1⟩
    have hr1 := (hr.kept hk1 (fun b hb => hb)).1
    have h2 := HRN.out w1 hA1 hr1 hn hAc
    clear HRN hon
    go_wp2_with fail
    refine h2.mono ?_
    rintro e w2 ⟨rfl, hA2, hk2⟩
    cases b with
    | true =>
      go_wp2_with fail
      go_ret
      exact TakenPost.yes HS.out hA2 (hk1.trans hk2)
    | false =>
      go_wp2_with fail
      go_ret
      exact TakenPost.no HS.out hA2 (hk1.trans hk2)
set_option maxRecDepth 100000 in
set_option maxHeartbeats 1000000 in
theorem take_0 (g : Nat) (t : TK) (A : Option Addr) (n c : Nat) (bs : List Int) (w : World) (hA : At w g 124 (tkL t)) (hr : RdP w (· ≠ g) A n bs) (hn : n ≤ 1000000) (hAc : A = none → c = 0) :
    Calls Try.prog 92 #[.pointer (some ⟨g, 0, none⟩), .int .u64 0, .slice A n c] w (TakenPost w g t 0 bs) := by
  have hS : takeS t 0 bs = if !t.z && bs.length == 8 then some ⟨⟨t.p.i, t.p.d, t.p.s, t.p.m, N8.of bs⟩, true, t.i, t.d, t.s, t.m⟩ else none := rfl
  cases hc : t.z with
  | true =>
    have HN := Lib.hid (show takeS t 0 bs = none by rw [hS, hc]; rfl)
    clear hS
    have hon := once_any g _ (tkL t) 0 0 rfl (by decide) true w hA (by rw [← hc]; rfl)
    go_enter Try.func92, Try.ntmps92
    go_wp2_with fail
    refine hon.mono ?_
    rintro e w1 ⟨rfl, hA1, hk1⟩
    go_wp2_with fail
    go_ret
    exact TakenPost.no HN.out hA1 hk1
  | false =>
    rw [hc] at hS
    have hon := once_any g _ (tkL t) 0 0 rfl (by decide) false w hA (by rw [← hc]; rfl)
    have hrn := fun W => rname_any g 124 ((tkL t).set 12 (.bool true)) (by rw [List.length_set, tkL_len]; decide) A n c bs W
    have hfin : bs.length = 8 → splice ((tkL t).set 12 (.bool true)) 4 ((bs.take 8).map (Value.int .u8)) = tkL ⟨⟨t.p.i, t.p.d, t.p.s, t.p.m, N8.of bs⟩, true, t.i, t.d, t.s, t.m⟩ := by
      intro h8
      match bs, h8 with
      | [a0, a1, a2, a3, a4, a5, a6, a7], _ => rfl
    obtain ⟨t', ht'⟩ : ∃ x, (⟨⟨t.p.i, t.p.d, t.p.s, t.p.m, N8.of bs⟩, true, t.i, t.d, t.s, t.m⟩ : TK) = x := ⟨_, rfl⟩
    rw [ht'] at hfin hS
    obtain ⟨LL, hLL⟩ : ∃ x, splice ((tkL t).set 12 (.bool true)) 4 ((bs.take 8).map (Value.int .u8)) = x := ⟨_, rfl⟩
    rw [hLL] at hfin hrn
    have hfin' : (bs.length == 8) = true → LL = tkL t' := fun h => hfin (by simpa using h)
    clear hfin
    obtain ⟨b, hb⟩ : ∃ b, (bs.length == 8) = b := ⟨_, rfl⟩
    rw [hb] at hrn hS hfin'
    have HS := Lib.hid hS
    have HRN := Lib.hid hrn
    have HF := Lib.hid hfin'
    clear ht' hb hS hrn hLL hfin'
    go_enter Try.func92, Try.ntmps92
    go_wp2_with fail
    refine hon.mono ?_
    rintro e w1 ⟨rfl, hA1, hk1⟩
    have hr1 := (hr.kept hk1 (fun b hb => hb)).1
    have h2 := HRN.out w1 hA1 hr1 hn
    clear HRN hon
    go_wp2_with fail
    refine h2.mono ?_
    rintro e w2 ⟨rfl, hA2, hk2⟩
    cases b with
    | true =>
      go_wp2_with fail
      go_ret
      exact TakenPost.yes HS.out (by rw [← HF.out trivial]; exact hA2) (hk1.trans hk2)
    | false =>
      go_wp2_with fail
      go_ret
      exact TakenPost.no HS.out hA2 (hk1.trans hk2)
set_option maxRecDepth 100000 in
set_option maxHeartbeats 1000000 in
theorem take_any' (g : Nat) (t : TK) (id : Int) (A : Option Addr) (n c : Nat) (bs : List Int) (w : World) (hA : At w g 124 (tkL t)) (hr : RdP w (· ≠ g) A n bs) (hn : n ≤ 1000000) (hAc : A = none → c = 0) :
    Calls Try.prog 92 #[.pointer (some ⟨g, 0, none⟩), .int .u64 id, .slice A n c] w (TakenPost w g t id bs) := by
  by_cases h0 : id = 0
  · subst h0; exact take_0 g t A n c bs w hA hr hn hAc
  by_cases h1 : id = 1
  · subst h1; exact take_1 g t A n c bs w hA hr hn hAc
  by_cases h4 : id = 4
  · subst h4; exact take_4 g t A n c bs w hA hr hn hAc
  by_cases h5 : id = 5
  · subst h5; exact take_5 g t A n c bs w hA hr hn hAc
  by_cases h8 : id = 8
  · subst h8; exact take_8 g t A n c bs w hA hr hn hAc
  have HS := Lib.hid (show takeS t id bs = some t by unfold takeS; rw [if_neg h0, if_neg h1, if_neg h4, if_neg h5, if_neg h8])
  have e0 : (id == 0) = false := by simpa using h0
  have e1 : (id == 1) = false := by simpa using h1
  have e4 : (id == 4) = false := by simpa using h4
  have e5 : (id == 5) = false := by simpa using h5
  have e8 : (id == 8) = false := by simpa using h8
  go_enter Try.func92, Try.ntmps92
  go_wp2
  go_ret
  exact TakenPost.yes HS.out hA (Kept.refl _ _)
end
section
set_option linter.unusedVariables false
open Go.RowKit
def Vr (x : Int) : Prop := 0 ≤ x ∧ x ≤ 4611686018427387903
theorem take_app (xs more : List Int) (n : Int) (hn : n = xs.length) : takeR (xs ++ more, false) n = xs ∧ takeN (xs ++ more, false) n = (more, false) := by
  subst hn
  unfold takeR takeN
  rw [if_pos ⟨by omega, by simp only [List.length_append]; omega⟩, if_pos ⟨by omega, by simp only [List.length_append]; omega⟩]
  simp
theorem var_app (x : Int) (h : Vr x) (more : List Int) : varR (putS x ++ more, false) = x ∧ varN (putS x ++ more, false) = (more, false) := by
  have g := get_put x h.1 h.2 more
  have s1 := size_pos x h.2
  unfold varR varN
  simp only [g]
  rw [if_neg (by omega), if_neg (by omega)]
  exact ⟨rfl, (take_app (putS x) more _ (by rw [putS_len])).2⟩
theorem text_app (xs more : List Int) (h : xs.length ≤ 1000000) : textR (textB xs ++ more, false) = xs ∧ textN (textB xs ++ more, false) = (more, false) := by
  have hv : Vr (xs.length : Int) := ⟨by omega, by omega⟩
  unfold textB textR textN
  rw [List.append_assoc, (var_app _ hv _).1, (var_app _ hv _).2]
  exact take_app xs more _ rfl
/-- A reader that lacked bytes stays so. -/
theorem spoilt (n : Int) : takeR ([], true) n = [] ∧ takeN ([], true) n = ([], true) := by
  unfold takeR takeN
  constructor
  · split <;> simp
  · split
    · simp
    · rfl
theorem var_spoilt : varR ([], true) = 0 ∧ varN ([], true) = ([], true) := by
  unfold varR varN
  have : getS [] = (0, 0) := by simp [getS]
  simp [this]
end
end Go.Proofs.Ytdakbedohjemeaa
