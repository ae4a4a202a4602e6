/-
  ReceiverEnds: what holds behind i rounds. Mathematics alone, and the calls.
-/
import Derived.Test.YtahalbmcijbbmaaKm
import Derived.Test.YtahalbmcijbbmaaBytes
import Derived.OpenShut
import Derived.Test.YtahalbmcijbbmaaProg
import Derived.Test.YtahalbmcijbbmaaMq0
import Derived.Deep.Slices
import Derived.ChangeSlices
import Derived.SizedLaws
import Derived.WalkKit
namespace Go.Proofs.Ytahalbmcijbbmaa
section
set_option linter.unusedVariables false
set_option linter.unusedSimpArgs false
open Go.RowKit
/-- Nothing but what is in la came. -/
structure OrQ (la : List Int) (S : BS) : Prop where
  hi : S.hi ≤ la.length
  fi : S.en = true → S.fi = la.length
  g : ∀ n x, S.g n = some x → la[n]? = some x
theorem OrQ.addE {la : List Int} {S : BS} (h : OrQ la S) {off len : Nat} {fin : Bool} (hl : off + len ≤ la.length) (h2 : la.length ≤ 200) (hf : fin = true → off + len = la.length) : addE S off len fin = 0 := by
  have h1 := h.hi
  have h3 := h.fi
  unfold Go.Proofs.Ytahalbmcijbbmaa.addE
  rw [if_neg (by omega), if_neg, if_neg (by omega)]
  intro hc
  cases hen : S.en <;> cases hfi : fin <;> rw [hen, hfi] at hc <;> simp at hc
  · have := hf hfi; omega
  · have := h3 hen; omega
  · have e1 := h3 hen
    have e2 := hf hfi
    omega
theorem OrQ.addS {la bs : List Int} {S : BS} (h : OrQ la S) {off : Nat} {fin : Bool} (hl : off + bs.length ≤ la.length) (hf : fin = true → off + bs.length = la.length) (hb : bs = (la.drop off).take bs.length) : OrQ la (addS S off bs fin) := by
  refine ⟨?_, ?_, ?_⟩
  · have := h.hi
    show max S.hi (off + bs.length) ≤ _
    omega
  · intro he
    have he' : (S.en || fin) = true := he
    show (if fin = true then off + bs.length else S.fi) = _
    split
    · rename_i hfi
      exact hf hfi
    · rename_i hfi
      have : fin = false := by simpa using hfi
      rw [this, Bool.or_false] at he'
      exact h.fi he'
  · intro n x hx
    have hx' : addG S.g off bs n = some x := hx
    cases hg : S.g n with
    | some y =>
      rw [addG_some (by rw [hg]; rfl)] at hx'
      exact h.g n x (by rw [hg, ← hx', hg])
    | none =>
      rw [addG_none hg] at hx'
      by_cases hc : off ≤ n ∧ n < off + bs.length
      · unfold pieceB at hx'
        rw [if_pos hc.1, hb, List.getElem?_take_of_lt (by omega), List.getElem?_drop] at hx'
        rw [← hx']
        congr 1
        omega
      · rw [pieceB_out (by omega)] at hx'
        cases hx'
def m4z (id code f : Nat) : FN := { FN.zero 4 with s := id, c := code, f := f }
theorem m4z_wf {id code f : Nat} (h1 : id < 18446744073709551616) (h2 : code < 18446744073709551616) (h3 : f < 18446744073709551616) : (m4z id code f).wf := by
  constructor <;> simp only [m4z, FN.zero] <;> first | omega | (intro x hx; simp at hx; omega)
def nP (la : List Int) : Nat := (la.length + 9) / 10
/-- Behind i rounds. -/
structure EnQ (la : List Int) (code : Nat) (rs : Bool) (i : Nat) (X : QS) : Prop where
  id : X.id = 6
  lim : X.lim = 500
  l2 : la.length ≤ 120
  rd : X.b.rd = 0
  st : X.st ≤ 3 ∨ (X.st = 5 ∧ X.code = code ∧ X.fin = la.length ∧ rs = true)
  ord : OrQ la X.b
  got : X.st ≤ 3 → ∀ j, j < 10 * (i - nP la) → j < la.length → (X.b.g j).isSome = true
  en : X.st ≤ 3 → 0 < nP la → 2 * nP la ≤ i → X.b.en = true
theorem enQ0 {la : List Int} (h : la.length ≤ 120) (code : Nat) (rs : Bool) : EnQ la code rs 0 (qs0 6 500) :=
  ⟨rfl, rfl, h, rfl, .inl (by show 1 ≤ 3; omega), ⟨Nat.zero_le _, fun h => (by cases h), fun n x h => (by cases h)⟩, fun _ j hj _ => (by omega), fun _ h1 h2 => (by omega)⟩
section
variable {la : List Int} {code i : Nat} {rs : Bool} {X : QS}
theorem settle_le3 (h : X.st ≤ 3) : (settleQ X).st ≤ 3 := by
  rw [settleQ_st]
  split
  · split
    · omega
    · split <;> omega
  · exact h
theorem EnQ.piece (h : EnQ la code rs i X) (k : Nat) (hk : k < nP la) (hik : nP la ≤ i → k = i - nP la) (hi2 : i < 2 * nP la) (e : Nat) (he : e = min (10 * k + 10) la.length) (fin : Bool) (hf : fin = decide (e = la.length)) :
    onSE X (10 * k) (e - 10 * k) fin = 0 ∧ EnQ la code rs (i + 1) (onSX X (10 * k) ((la.drop (10 * k)).take (e - 10 * k)) fin) := by
  have h2 := h.l2
  unfold nP at hk hik hi2
  have hle : 10 * k ≤ e := by omega
  have hbl : ((la.drop (10 * k)).take (e - 10 * k)).length = e - 10 * k := by rw [List.length_take, List.length_drop]; omega
  have hfe : fin = true → 10 * k + (e - 10 * k) = la.length := fun h => by rw [hf] at h; simp at h; omega
  rcases h.st with hst | ⟨hst, hcd, hfi, hrs⟩
  · have he0 := h.ord.addE (off := 10 * k) (len := e - 10 * k) (fin := fin) (by omega) (by omega) hfe
    have hE : onSE X (10 * k) (e - 10 * k) fin = 0 := by
      unfold onSE
      rw [if_neg (by rw [h.lim]; omega), if_neg (by omega)]
      exact he0
    refine ⟨hE, ?_⟩
    have hX : onSX X (10 * k) ((la.drop (10 * k)).take (e - 10 * k)) fin = settleQ { X with b := addS X.b (10 * k) ((la.drop (10 * k)).take (e - 10 * k)) fin } := by
      unfold onSX
      rw [hbl, if_pos ⟨hE, by omega⟩]
    rw [hX]
    obtain ⟨q1, q2, q3, q4, q5, q6, q7, q8, q9⟩ := settleQ_b { X with b := addS X.b (10 * k) ((la.drop (10 * k)).take (e - 10 * k)) fin }
    refine ⟨q2.trans h.id, q4.trans h.lim, h.l2, by rw [q1]; exact h.rd, .inl (settle_le3 hst), ?_, fun _ j hj hjl => ?_, fun _ h1 h3 => ?_⟩
    · rw [q1]
      exact h.ord.addS (by rw [hbl]; omega) (by rw [hbl]; exact hfe) (by rw [hbl])
    · rw [q1]
      show (addG X.b.g (10 * k) ((la.drop (10 * k)).take (e - 10 * k)) j).isSome = true
      rw [addG_isSome, hbl]
      unfold nP at hj
      by_cases hin : (la.length + 9) / 10 ≤ i
      · have hk' := hik hin
        by_cases hj2 : j < 10 * (i - (la.length + 9) / 10)
        · rw [h.got hst j hj2 hjl]
          rfl
        · have : decide (10 * k ≤ j) = true := by simp; omega
          have h4 : decide (j < 10 * k + (e - 10 * k)) = true := by simp; omega
          rw [this, h4]
          simp
      · omega
    · rw [q1]
      show (X.b.en || fin) = true
      unfold nP at h1 h3
      have hfin : fin = true := by
        rw [hf]
        simp
        have := hik (by omega)
        omega
      rw [hfin, Bool.or_true]
  · have hE : onSE X (10 * k) (e - 10 * k) fin = 0 := by
      unfold onSE
      rw [if_neg (by rw [h.lim]; omega), if_pos (by omega), hfi, if_neg]
      rintro (hc | ⟨hc1, hc2⟩)
      · omega
      · have := hfe hc1; omega
    have hX : onSX X (10 * k) ((la.drop (10 * k)).take (e - 10 * k)) fin = X := by
      unfold onSX
      rw [if_neg (by omega)]
    rw [hX]
    exact ⟨hE, h.id, h.lim, h.l2, h.rd, h.st, h.ord, fun h' => by omega, fun h' => by omega⟩
theorem EnQ.reset_ (h : EnQ la code true i X) : onRE X la.length = 0 ∧ EnQ la code true i (onRX X la.length code) := by
  have h2 := h.l2
  rcases h.st with hst | ⟨hst, hcd, hfi, hrs⟩
  · have hE : onRE X la.length = 0 := by
      have h5 : ¬ 5 ≤ X.st := by omega
      have hb : rsB X la.length = false := by
        unfold rsB sizedB sizedN highQ
        simp only [if_neg h5]
        have h1 := h.ord.hi
        have h3 : decide (la.length < X.b.hi) = false := by simp; omega
        rw [h3]
        cases hen : X.b.en with
        | false => rfl
        | true => rw [h.ord.fi hen]; simp
      rw [onRE_eq, if_neg (by rw [h.lim]; omega), hb]
      rfl
    refine ⟨hE, ?_⟩
    unfold onRX
    by_cases h2 : X.st ≤ 2
    · rw [if_pos ⟨hE, h2⟩]
      exact ⟨h.id, h.lim, h.l2, h.rd, .inr ⟨rfl, rfl, rfl, rfl⟩, h.ord, fun h' => (by have h'' : 5 ≤ 3 := h'; omega), fun h' => (by have h'' : 5 ≤ 3 := h'; omega)⟩
    · rw [if_neg (fun h => h2 h.2)]
      exact h
  · have hE : onRE X la.length = 0 := by
      have h5 : 5 ≤ X.st := by omega
      have hb : rsB X la.length = false := by
        unfold rsB sizedB sizedN highQ
        simp only [if_pos h5, hfi]
        simp
      rw [onRE_eq, if_neg (by rw [h.lim]; omega), hb]
      rfl
    refine ⟨hE, ?_⟩
    unfold onRX
    rw [if_neg (by omega)]
    exact h
/-- At the end. -/
structure EndQ (la : List Int) (code : Nat) (rs : Bool) (X : QS) : Prop where
  ok : X.ok
  ph : (X.st = 3 ∧ X.b.rd = 0 ∧ X.b.en = true ∧ X.b.fi = la.length ∧ rdyS X.b = la.length ∧ outB X.b.g 0 la.length = la) ∨ (X.st = 5 ∧ X.code = code ∧ rs = true)
theorem endQ_live (ok : X.ok) (hst : X.st ≤ 3) (hrd : X.b.rd = 0) (hen : X.b.en = true) (ho : OrQ la X.b) (hg : ∀ j, j < la.length → (X.b.g j).isSome = true) : EndQ la code rs X := by
  have hfi := ho.fi hen
  have hk : IsR X.b.g X.b.rd la.length := by
    rw [hrd]
    refine ⟨fun j hj => by rw [Nat.zero_add]; exact hg j hj, ?_⟩
    rw [Nat.zero_add]
    cases hq : X.b.g la.length with
    | none => rfl
    | some x =>
      have := ho.g _ x hq
      rw [List.getElem?_eq_none (Nat.le_refl _)] at this
      cases this
  have hr := rdyS_eq ok.b hk
  have hw : wholeB X.b = true := by unfold wholeB; rw [hen, hr, hrd, hfi]; simp
  have h3 : X.st = 3 := by
    rcases ok.st with e | e | e | e | e | e
    · have := ok.s1 e; rw [hen] at this; cases this
    · have := (ok.s2 e).2; rw [hw] at this; cases this
    all_goals omega
  refine ⟨ok, .inl ⟨h3, hrd, hen, hfi, hr, ?_⟩⟩
  apply List.ext_getElem?
  intro j
  unfold outB
  rw [List.getElem?_map]
  by_cases hj : j < la.length
  · rw [List.getElem?_range hj]
    obtain ⟨x, hx⟩ := Option.isSome_iff_exists.1 (hg j hj)
    simp [hx, ho.g j x hx]
  · rw [List.getElem?_eq_none (by simp; omega), List.getElem?_eq_none (by omega)]
    rfl
theorem EnQ.fin (h : EnQ la code rs (2 * nP la) X) (ok : X.ok) (hn : 0 < nP la) : EndQ la code rs X := by
  rcases h.st with hst | ⟨hst, hcd, hfi, hrs⟩
  · exact endQ_live ok hst h.rd (h.en hst hn (Nat.le_refl _)) h.ord fun j hj => h.got hst j (by unfold nP; omega) hj
  · exact ⟨ok, .inr ⟨hst, hcd, hrs⟩⟩
theorem EnQ.fin0 (h : EnQ la code rs i X) (ok : X.ok) (hn : nP la = 0) : onSE X 0 0 true = 0 ∧ EndQ la code rs (onSX X 0 [] true) := by
  have hl : la.length = 0 := by unfold nP at hn; omega
  rcases h.st with hst | ⟨hst, hcd, hfi, hrs⟩
  · have he0 := h.ord.addE (off := 0) (len := 0) (fin := true) (by omega) (by omega) (fun _ => by omega)
    have hE : onSE X 0 0 true = 0 := by
      unfold onSE
      rw [if_neg (by rw [h.lim]; omega), if_neg (by omega)]
      exact he0
    have ok' := onSX_ok ok 0 [] true (fun x hx => by cases hx)
    have hX : onSX X 0 [] true = settleQ { X with b := addS X.b 0 [] true } := by
      unfold onSX
      rw [if_pos ⟨hE, by omega⟩]
    obtain ⟨q1, _⟩ := settleQ_b { X with b := addS X.b 0 [] true }
    refine ⟨hE, ?_⟩
    rw [hX] at ok' ⊢
    refine endQ_live ok' (settle_le3 hst) (by rw [q1]; exact h.rd) (by rw [q1]; show (X.b.en || true) = true; simp) ?_ fun j hj => by omega
    rw [q1]
    exact h.ord.addS (by show 0 + 0 ≤ _; omega) (fun _ => by show 0 + 0 = _; omega) (by simp)
  · have hE : onSE X 0 0 true = 0 := by
      unfold onSE
      rw [if_neg (by rw [h.lim]; omega), if_pos (by omega), hfi, if_neg]
      rintro (hc | ⟨hc1, hc2⟩) <;> omega
    have hX : onSX X 0 [] true = X := by unfold onSX; rw [if_neg (by omega)]
    rw [hX]
    exact ⟨hE, ok, .inr ⟨hst, hcd, hrs⟩⟩
end
/-- The law's receiver behind i rounds. -/
def Gq (w W : World) (p : Nat) (la : List Int) (code : Nat) (rs : Bool) (i : Nat) : Prop := ∃ X, Qo w W p X (fun _ => False) ∧ EnQ la code rs i X
def Hq (w W : World) (p : Nat) (la : List Int) (code : Nat) (rs : Bool) : Prop := ∃ X, Qo w W p X (fun _ => False) ∧ EndQ la code rs X
section
variable {w W : World} {p : Nat} {la : List Int} {code i : Nat} {rs : Bool}
theorem onE_8 {X : QS} (h : X.id = 6) (off n : Nat) (fin : Bool) : onE X (m8z 6 off fin) n = onSE X off n fin := by
  unfold onE
  rw [if_pos (by show ((6 : Nat) : Int) = _; rw [h]), if_pos (show (m8z 6 off fin).k = 8 from rfl)]
  rfl
theorem onX_8 {X : QS} (h : X.id = 6) (off : Nat) (bs : List Int) (fin : Bool) : onX X (m8z 6 off fin) bs = onSX X off bs fin := by
  unfold onX
  rw [if_pos (by show ((6 : Nat) : Int) = _; rw [h]), if_pos (show (m8z 6 off fin).k = 8 from rfl)]
  rfl
theorem gq_piece (h : Gq w W p la code rs i) (k : Nat) (hk : k < nP la) (hik : nP la ≤ i → k = i - nP la) (hi2 : i < 2 * nP la) (e off : Nat) (hoff : off = 10 * k) (he : e = min (off + 10) la.length) (fin : Bool) (hf : fin = decide (e = la.length)) (A : Option Addr) (c : Nat)
    (hrd : Rd w w.heap.size A (e - off) ((la.drop off).take (e - off))) (hc : e - off ≤ c) :
    Calls Try.prog 13 #[.pointer (some ⟨p, 0, none⟩), frV (m8z 6 off fin) ⟨A, e - off, c⟩ .nil] W fun e w' => e = .returned (.int .i64 0) ∧ Gq w w' p la code rs (i + 1) := by
  obtain ⟨X, hq, hX⟩ := h
  have h2 := hX.l2
  subst hoff
  obtain ⟨hE, hN⟩ := hX.piece k hk hik hi2 e he fin hf
  have hkl : k ≤ 120 := by unfold nP at hk; omega
  refine (qo_on hq (m8z 6 (10 * k) fin) ⟨A, e - 10 * k, c⟩ .nil ((la.drop (10 * k)).take (e - 10 * k)) (m8z_wf (by omega) (by omega)) ((RdP.of_rd (hrd.below hq.bl) hq.bl.size).mono fun b _ hb => .inr hb) hc (by show e - 10 * k < _; omega)).mono fun e' w' ⟨h1, hP, _⟩ => ?_
  rw [onE_8 hX.id, hrd.1, hE] at h1
  rw [onX_8 hX.id] at hP
  exact ⟨h1, _, hP, hN⟩
theorem gq_reset (h : Gq w W p la code true i) (hc : code < 18446744073709551616) (m : Nat) (hm : m = la.length) :
    Calls Try.prog 13 #[.pointer (some ⟨p, 0, none⟩), frV (m4z 6 code m) .nil .nil] W fun e w' => e = .returned (.int .i64 0) ∧ Gq w w' p la code true i := by
  obtain ⟨X, hq, hX⟩ := h
  have h2 := hX.l2
  subst hm
  obtain ⟨hE, hN⟩ := hX.reset_
  have hwf : (m4z 6 code la.length).wf := m4z_wf (by omega) hc (by omega)
  refine (qo_on hq _ .nil .nil [] hwf (RdP.none_ _ _ _) (Nat.le_refl _) (by show 0 < _; omega)).mono fun e' w' ⟨h1, hP, _⟩ => ?_
  have e1 : onE X (m4z 6 code la.length) 0 = onRE X la.length := by
    unfold onE
    rw [if_pos (by show ((6 : Nat) : Int) = _; rw [hX.id]), if_neg (by show ¬ (4 : Int) = 8; omega), if_pos (show (m4z 6 code la.length).k = 4 from rfl)]
    rfl
  have e2 : onX X (m4z 6 code la.length) [] = onRX X la.length code := by
    unfold onX
    rw [if_pos (by show ((6 : Nat) : Int) = _; rw [hX.id]), if_neg (by show ¬ (4 : Int) = 8; omega), if_pos (show (m4z 6 code la.length).k = 4 from rfl)]
    rfl
  rw [List.length_nil, e1, hE] at h1
  rw [e2] at hP
  exact ⟨h1, _, hP, hN⟩
theorem gq_fin0 (h : Gq w W p la code rs i) (hn : nP la = 0) :
    Calls Try.prog 13 #[.pointer (some ⟨p, 0, none⟩), frV (m8z 6 0 true) .nil .nil] W fun e w' => e = .returned (.int .i64 0) ∧ Hq w w' p la code rs := by
  obtain ⟨X, hq, hX⟩ := h
  obtain ⟨hE, hN⟩ := hX.fin0 hq.ok hn
  refine (qo_on hq (m8z 6 0 true) .nil .nil [] (m8z_wf (by omega) (by omega)) (RdP.none_ _ _ _) (Nat.le_refl _) (by show 0 < _; omega)).mono fun e' w' ⟨h1, hP, _⟩ => ?_
  rw [onE_8 hX.id, List.length_nil, hE] at h1
  rw [onX_8 hX.id] at hP
  exact ⟨h1, _, hP, hN⟩
theorem gq_fin (h : Gq w W p la code rs (2 * nP la)) (hn : 0 < nP la) : Hq w W p la code rs := by
  obtain ⟨X, hq, hX⟩ := h
  exact ⟨X, hq, hX.fin hq.ok hn⟩
set_option maxHeartbeats 2000000 in
set_option maxRecDepth 100000 in
/-- Read behind the end. -/
theorem qo_read_end {X : QS} {F : Nat → Prop} (h : Qo w W p X F) (h46 : X.st = 4 ∨ X.st = 6) (most : Int) : Calls Try.prog 15 #[.pointer (some ⟨p, 0, none⟩), .int .i64 most] W fun e w' => e = .returned (.tuple #[.slice none 0 0, .bool false, .int .u64 0, .int .i64 24]) ∧ w' = W := by
  obtain ⟨O, h1, _⟩ := h.bf
  have c2 := h1.c2
  clear h h1
  rcases h46 with h4 | h4
  all_goals
    rw [h4] at c2
    clear h4
    go_enter Try.func15, Try.ntmps15
    go_wp2
    refine bodyPost_ret (results_tmp4q rfl _ _ _) rfl ?_
    exact ⟨rfl, rfl⟩
/-- The second Read at the end, and State. -/
structure RdEnd (w W1 : World) (p st : Nat) : Prop where
  bl : Below w.heap.size w W1
  rd : Calls Try.prog 15 #[.pointer (some ⟨p, 0, none⟩), .int .i64 1000] W1 fun e w' => e = .returned (.tuple #[.slice none 0 0, .bool false, .int .u64 0, .int .i64 24]) ∧ w' = W1
  st_ : ∀ W2, Below W1.heap.size W1 W2 → Calls Try.prog 9 #[.pointer (some ⟨p, 0, none⟩)] W2 fun e w'' => e = .returned (.int .i64 st) ∧ w'' = W2
theorem rdEnd_of {w' : World} {X1 : QS} {st : Nat} (h : Qo w w' p X1 (fun _ => False)) (h46 : X1.st = 4 ∨ X1.st = 6) (hst : X1.st = st) : RdEnd w w' p st :=
  ⟨h.bl, qo_read_end h h46 1000, fun W2 k => by
    have := qo_state (h.below k)
    rw [hst] at this
    exact this⟩
theorem EndQ.read1 {X : QS} (h : EndQ la code rs X) (h2 : la.length ≤ 120) : (readQ X 1000 = ⟨true, 0, 0, la⟩ ∧ (readX X 1000).st = 4) ∨ (rs = true ∧ readQ X 1000 = ⟨false, code, 29, []⟩ ∧ (readX X 1000).st = 6) := by
  rcases h.ph with ⟨hst, hrd, hen, hfi, hr, ho⟩ | ⟨hst, hcd, hrs⟩
  · left
    have hn : min (1000 : Int).toNat (rdyS X.b) = la.length := by rw [hr]; show min 1000 _ = _; omega
    have hb : (X.b.en && decide (X.b.rd + la.length = X.b.fi)) = true := by rw [hen, hrd, hfi]; simp
    have e2 : readX X 1000 = { X with b := takeS X.b la.length, st := 4 } := by
      unfold readX
      rw [if_neg (by omega), if_neg (by omega), hn, hb]
      rfl
    refine ⟨?_, by rw [e2]⟩
    unfold readQ
    rw [if_neg (by omega), if_neg (by omega), hn, if_neg, hb, hrd, ho]
    rintro ⟨h0, hc⟩
    rw [h0] at hb
    rw [Nat.add_zero] at hb
    rw [hb] at hc
    cases hc
  · right
    have e2 : readX X 1000 = { X with st := 6 } := by unfold readX; rw [if_pos hst]
    refine ⟨hrs, ?_, by rw [e2]⟩
    unfold readQ; rw [if_pos hst, hcd]
theorem hq_read (h : Hq w W p la code rs) (h2 : la.length ≤ 120) :
    Calls Try.prog 15 #[.pointer (some ⟨p, 0, none⟩), .int .i64 1000] W fun e w' =>
      (∃ A c, e = .returned (.tuple #[.slice A la.length c, .bool true, .int .u64 0, .int .i64 0]) ∧ Own w' W.heap.size 5 (.slice A la.length c) la ∧ RdEnd w w' p 4) ∨
      (rs = true ∧ ∃ A c, e = .returned (.tuple #[.slice A 0 c, .bool false, .int .u64 code, .int .i64 29]) ∧ RdEnd w w' p 6) := by
  obtain ⟨X, hq, hX⟩ := h
  rcases hX.read1 h2 with ⟨e1, e3⟩ | ⟨hrs, e1, e3⟩
  · refine (qo_read hq 1000 (by omega)).mono fun e w' ⟨v, he, hv, hP, _⟩ => .inl ?_
    rw [e1] at he hv
    obtain ⟨A, c, rfl, _, _, _⟩ := hv.open_
    exact ⟨A, c, he, hv, rdEnd_of hP (.inl e3) e3⟩
  · refine (qo_read hq 1000 (by omega)).mono fun e w' ⟨v, he, hv, hP, _⟩ => .inr ⟨hrs, ?_⟩
    rw [e1] at he hv
    obtain ⟨A, c, rfl, _, _, _⟩ := hv.open_
    exact ⟨A, c, he, rdEnd_of hP (.inr e3) e3⟩
theorem Gq.below (h : Gq w W p la code rs i) {W' : World} (k : Below W.heap.size W W') : Gq w W' p la code rs i := by
  obtain ⟨X, hq, hX⟩ := h
  exact ⟨X, hq.below k, hX⟩
theorem Gq.bl (h : Gq w W p la code rs i) : Below w.heap.size w W := by
  obtain ⟨X, hq, hX⟩ := h
  exact hq.bl
end
end
section
set_option linter.unusedVariables false
open Go.RowKit
/-- A row of bytes that came in: what the walk needs of it. -/
def InRow (w : World) (A : Option Addr) (n c : Nat) (bs : List Int) : Prop := Rd w w.heap.size A n bs ∧ n ≤ c ∧ c ≤ maxLen ∧ (A = none → c = 0)
theorem cell_lt {w : World} {b off : Nat} {v : Value} (h : w.cell? ⟨b, off, none⟩ = some v) : b < w.heap.size := by
  rcases Nat.lt_or_ge b w.heap.size with hlt | hge
  · exact hlt
  · have e : w.heap[b]? = none := Array.getElem?_eq_none hge
    simp [World.cell?, e] at h
theorem inRow_nil (w : World) (n c : Nat) (hn : n = 0) (hc : c = 0) : InRow w none n c [] := by
  subst hn; subst hc
  exact ⟨Rd.none_ _ _ _, Nat.le_refl _, by unfold maxLen; omega, fun _ => rfl⟩
theorem inRow_some {w : World} {x : Addr} {len cap : Nat} {zs : List Int} (hl : len ≤ cap) (hm : cap ≤ maxLen) (hz : zs.length = cap)
    (hcell : ∀ i, i < zs.length → w.cell? (x.add i) = some (.int .u8 (zs.getD i 0))) (hw : ∀ n ∈ zs, (Lit.int .u8 n).wf = true) : InRow w (some x) len cap (zs.take len) := by
  refine ⟨⟨by rw [List.length_take]; omega, fun y hy => ?_, fun hp => ?_⟩, hl, hm, fun h => by cases h⟩
  · have := bounds_u8 (hw y (List.mem_of_mem_take hy))
    omega
  · obtain ⟨b, off, spot⟩ := x
    have h0 := hcell 0 (by omega)
    have hs : spot = none := by simpa [Addr.add] using World.cell?_spot h0
    subst hs
    have h1 := hcell 0 (by omega)
    rw [addr_add] at h1
    refine ⟨b, off, rfl, cell_lt h1, fun i hi => ?_⟩
    have h2 := hcell i (by omega)
    rw [addr_add] at h2
    rw [h2, List.getD_eq_getElem?_getD, List.getD_eq_getElem?_getD, List.getElem?_take_of_lt hi]
end
section
set_option linter.unusedVariables false
open Go.RowKit Go.ChangeShapes Go.WideShapes Go.Deep
section
variable {H : Type} {enc : TypeId × Value → H} {P : Program} {w : World}
/-- What a reading of a row of bytes says in the words of the walks. -/
theorem inRow_of_trod {t e : TypeId} {fuel : Nat} {cs : List Value} {x : DataW H × List MemPlace} (ht : P.underlying t = some (.slice e)) (he : P.underlying e = some (.int .u8)) (hc : P.cellsOf e = 1)
    (h : DataW.trod enc P w 0 (fun _ => true) true fuel t cs = some x) : ∃ A len cap bs, cs = [.slice A len cap] ∧ InRow w A len cap bs := by
  rcases open_ints ht he hc h with ⟨hcs, _⟩ | ⟨x, l, c, zs, hcs, _, hl, hm, hz, _, hcell, hwz⟩
  · exact ⟨none, 0, 0, [], hcs, inRow_nil w 0 0 rfl rfl⟩
  · exact ⟨_, _, _, _, hcs, inRow_some hl hm (by simpa using hz) hcell hwz⟩
end
end
section
set_option linter.unusedVariables false
open Go.RowKit Go.ChangeShapes Go.WideShapes Go.Deep
theorem inRow_of_trodS {H : Type} {enc : TypeId × Value → H} {P : Program} {w : World} {t e : TypeId} {fuel : Nat} {cs : List Value} {x : DataW H × List MemPlace} (ht : P.underlying t = some (.slice e)) (he : P.underlying e = some (.int .u8)) (hc : P.cellsOf e = 1)
    (h : DataW.trod enc P w 0 (fun _ => true) true fuel t cs = some x) :
    ∃ A len cap bs, cs = [.slice A len cap] ∧ InRow w A len cap bs ∧ ((x.1 = .nil ∧ cap = 0) ∨ ∃ es sp, x.1 = .slice es sp ∧ es.length + sp.length = cap) := by
  rcases open_ints ht he hc h with ⟨hcs, hx⟩ | ⟨x', l, c, zs, hcs, _, hl, hm, hz, hx, hcell, hwz⟩
  · exact ⟨none, 0, 0, [], hcs, inRow_nil w 0 0 rfl rfl, .inl ⟨by rw [hx], rfl⟩⟩
  · refine ⟨_, _, _, _, hcs, inRow_some hl hm (by simpa using hz) hcell hwz, .inr ⟨_, _, by rw [hx], ?_⟩⟩
    have hz' : zs.length = c := by simpa using hz
    simp [lits]
    omega
end
section
set_option linter.unusedVariables false
set_option linter.unusedSimpArgs false
open Go.RowKit Go.ChangeShapes Go.WideShapes Go.Deep
/-- A slice of signed numbers that can be read. -/
structure InN (w : World) (A : Option Addr) (n : Nat) (xs : List Int) : Prop where
  len : xs.length = n
  wd : ∀ x ∈ xs, -9223372036854775808 ≤ x ∧ x < 9223372036854775808
  at_ : 0 < n → ∃ b off, A = some ⟨b, off, none⟩ ∧ b < w.heap.size ∧ ∀ i x, xs[i]? = some x → w.cell? ⟨b, off + i, none⟩ = some (.int .i64 x)
theorem InN.below {w w' : World} {A : Option Addr} {n : Nat} {xs : List Int} (h : InN w A n xs) (k : Below w.heap.size w w') : InN w' A n xs := ⟨h.len, h.wd, fun hn => by
  obtain ⟨b, off, e, hb, hc⟩ := h.at_ hn
  exact ⟨b, off, e, Nat.lt_of_lt_of_le hb k.size, fun i x hi => (k.cell (p := ⟨b, _, none⟩) hb).trans (hc i x hi)⟩⟩
theorem InN.nil_ (w : World) (A : Option Addr) : InN w A 0 [] := ⟨rfl, fun x h => (by cases h), fun h => absurd h (by omega)⟩
/-- What a reading of a row of signed numbers says. -/
theorem inN_of_trod {H : Type} {enc : TypeId × Value → H} {P : Program} {w : World} {t e : TypeId} {fuel : Nat} {cs : List Value} {x : DataW H × List MemPlace} (ht : P.underlying t = some (.slice e)) (he : P.underlying e = some (.int .i64)) (hc : P.cellsOf e = 1)
    (h : DataW.trod enc P w 0 (fun _ => true) true fuel t cs = some x) :
    ∃ A len cap xs, cs = [.slice A len cap] ∧ InN w A len xs ∧ len ≤ cap ∧ cap ≤ maxLen ∧ ((x.1 = .nil ∧ cap = 0) ∨ ∃ es sp, x.1 = .slice es sp ∧ es.length + sp.length = cap) := by
  rcases open_ints ht he hc h with ⟨hcs, hx⟩ | ⟨x', l, c, zs, hcs, _, hl, hm, hz, hx, hcell, hwz⟩
  · exact ⟨none, 0, 0, [], hcs, InN.nil_ _ _, Nat.le_refl _, by unfold maxLen; omega, .inl ⟨by rw [hx], rfl⟩⟩
  · have hz' : zs.length = c := by simpa using hz
    refine ⟨_, _, _, zs.take l, hcs, ⟨by rw [List.length_take]; omega, fun y hy => by have := bounds_i64 (hwz y (List.mem_of_mem_take hy)); omega, fun hp => ?_⟩, hl, hm, .inr ⟨_, _, by rw [hx], ?_⟩⟩
    · obtain ⟨b, off, spot⟩ := x'
      have h0 := hcell 0 (by omega)
      have hs : spot = none := by simpa [Addr.add] using World.cell?_spot h0
      subst hs
      rw [addr_add] at h0
      refine ⟨b, off, rfl, cell_lt h0, fun i y hi => ?_⟩
      rw [List.getElem?_take] at hi
      split at hi
      · rename_i hil
        have h2 := hcell i (by omega)
        rw [addr_add] at h2
        rw [h2, List.getD_eq_getElem?_getD, hi]; rfl
      · cases hi
    · simp [lits]
      omega
end
end Go.Proofs.Ytahalbmcijbbmaa
