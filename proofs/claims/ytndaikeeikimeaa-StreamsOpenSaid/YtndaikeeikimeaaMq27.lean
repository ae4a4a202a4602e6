/-
  StreamsOpen's mathematics: a set that only opened (Zo), a Stream frame without data (stM).
-/
import Derived.Test.YtndaikeeikimeaaMq26
import Derived.Lib.SlBytesConst
import Derived.Test.YtndaikeeikimeaaMq13
namespace Go.Proofs.Ytndaikeeikimeaa
section
set_option linter.unusedVariables false
set_option linter.unusedSimpArgs false
open Go.RowKit
def stM (id : Nat) : FN := { FN.zero 8 with s := id }
theorem stM_wf (id : Nat) (h : id < 18446744073709551616) : (stM id).wf := by
  constructor <;> simp only [stM, FN.zero] <;> first | omega | (intro x hx; simp at hx; omega) | trace_state
theorem tlE_st (X : XS) (id lim got : Nat) : tlE (frS X id) lim got (stM id) 0 = 0 := by
  have h1 : flowB (frS X id) lim got 0 = false := by
    unfold flowB
    rw [decide_eq_false]
    omega
  have h2 : onE (qs0 id X.msd) (stM id) 0 = 0 := by
    unfold onE
    rw [if_pos (show (stM id).s = (qs0 id X.msd).id from rfl), if_pos (show (stM id).k = 8 from rfl)]
    unfold onSE
    rw [if_neg (by show ¬ min X.msd 2048 < 0 + 0; omega), if_neg (by show ¬ 5 ≤ 1; omega)]
    rfl
  show (if (8 : Int) = 8 then tkE (frS X id) lim got (0 + 0) (stM id) 0 else _) = 0
  rw [if_pos rfl]
  unfold tkE
  rw [h1]
  show (if false = true then (3 : Int) else if onE (qs0 id X.msd) (stM id) 0 = 23 then 3 else if onE (qs0 id X.msd) (stM id) 0 = 30 then 6 else 0) = 0
  rw [h2]
  rfl
/-- A set that opened n. -/
def Zo (X : XS) (n : Nat) : ZS := if X.own = 0 then ⟨X, frLs X 0 0 n, []⟩ else ⟨X, [], frLs X 1 0 n⟩
theorem Zo_X (X : XS) (n : Nat) : (Zo X n).X = X := by unfold Zo; split <;> rfl
theorem Zo_zero (X : XS) : Zo X 0 = ⟨X, [], []⟩ := by unfold Zo; split <;> rfl
theorem lenO_Zo (X : XS) (n : Nat) : lenO (Zo X n) = n := by
  unfold lenO
  rw [Zo_X]
  unfold Zo
  split
  · exact frLs_len _ _ _ _
  · exact frLs_len _ _ _ _
theorem opX_Zo (X : XS) (n : Nat) (h : X.own ≤ 1) : opX (Zo X n) = Zo X (if X.tms ≤ n then n else n + 1) := by
  unfold opX
  rw [lenO_Zo, Zo_X]
  split
  · rfl
  · split
    · rename_i h0
      unfold Zo
      rw [if_pos h0, if_pos h0]
      show (⟨X, frLs X 0 0 n ++ [frS X (4 * (frLs X 0 0 n).length)], []⟩ : ZS) = ⟨X, frLs X 0 0 n ++ [frS X (4 * (0 + n) + 0)], []⟩
      rw [frLs_len, Nat.zero_add]
      rfl
    · rename_i h0
      unfold Zo
      rw [if_neg h0, if_neg h0]
      show (⟨X, [], frLs X 1 0 n ++ [frS X (4 * (frLs X 1 0 n).length + 1)]⟩ : ZS) = ⟨X, [], frLs X 1 0 n ++ [frS X (4 * (0 + n) + 1)]⟩
      rw [frLs_len, Nat.zero_add]
structure XS.fit (X : XS) : Prop where
  ms : X.ms ≤ 99999
  msd : X.msd < 18446744073709551616
  tsd : X.tsd < 18446744073709551616
  lim : X.limit < 18446744073709551616
  own : X.own ≤ 1
theorem Zo_ok {X : XS} (h : X.fit) (n : Nat) (hn : n ≤ 100000) : (Zo X n).ok := by
  have gid : ∀ sd (i : Nat) (T : TS), (frLs X sd 0 n)[i]? = some T → T.id = 4 * i + sd := fun sd i T hi => by
    rw [frLs_get X sd 0 n i T hi]
    show 4 * (0 + i) + sd = _
    omega
  unfold Zo
  split
  · exact ⟨h.ms, h.msd, h.tsd, h.lim, h.own, by rw [frLs_len]; exact hn, Nat.zero_le _, fun T hT => frLs_ok hT (by omega) (by omega), fun T hT => (by cases hT), fun i T hi => gid 0 i T hi, fun i T hi => (by simp at hi)⟩
  · exact ⟨h.ms, h.msd, h.tsd, h.lim, h.own, Nat.zero_le _, by rw [frLs_len]; exact hn, fun T hT => (by cases hT), fun T hT => frLs_ok hT (by omega) (by omega), fun i T hi => (by simp at hi), fun i T hi => gid 1 i T hi⟩
theorem rise_left_T (a : List TS) : riseT a [] = a := by
  unfold riseT
  have : ∀ n : Nat, ((List.range n).flatMap fun k => a[k]?.toList ++ ([] : List TS)[k]?.toList) = a.take n := fun n => by
    induction n with
    | zero => simp
    | succ n ih =>
      rw [List.range_succ, List.flatMap_append, ih, List.take_add_one]
      simp
  rw [this]
  simp
theorem rise_right_T (a : List TS) : riseT [] a = a := by
  unfold riseT
  have : ∀ n : Nat, ((List.range n).flatMap fun k => ([] : List TS)[k]?.toList ++ a[k]?.toList) = a.take n := fun n => by
    induction n with
    | zero => simp
    | succ n ih =>
      rw [List.range_succ, List.flatMap_append, ih, List.take_add_one]
      simp
  rw [this]
  simp
/-- The ids of a set of which one side alone is there: sd that side, n of them. -/
def Ids (Z : ZS) (sd n : Nat) : Prop := (riseT Z.a Z.b).length = n ∧ ∀ i < n, ∃ T, (riseT Z.a Z.b)[i]? = some T ∧ T.id = 4 * i + sd
theorem ids_left {Z : ZS} (h : Z.ok) (hb : Z.b = []) : Ids Z 0 Z.a.length := by
  unfold Ids
  rw [hb, rise_left_T]
  exact ⟨rfl, fun i hi => ⟨Z.a[i], List.getElem?_eq_getElem hi, h.ia i _ (List.getElem?_eq_getElem hi)⟩⟩
theorem ids_right {Z : ZS} (h : Z.ok) (ha : Z.a = []) : Ids Z 1 Z.b.length := by
  unfold Ids
  rw [ha, rise_right_T]
  exact ⟨rfl, fun i hi => ⟨Z.b[i], List.getElem?_eq_getElem hi, h.ib i _ (List.getElem?_eq_getElem hi)⟩⟩
theorem ids_Zo {X : XS} (h : X.fit) (n : Nat) (hn : n ≤ 100000) : Ids (Zo X n) X.own n := by
  have hk := Zo_ok h n hn
  have ho := h.own
  unfold Zo at hk ⊢
  split at hk
  · rename_i h0
    have := ids_left hk rfl
    rw [show (⟨X, frLs X 0 0 n, []⟩ : ZS).a.length = n from frLs_len _ _ _ _] at this
    rw [if_pos h0, h0]
    exact this
  · rename_i h0
    have := ids_right hk rfl
    rw [show (⟨X, [], frLs X 1 0 n⟩ : ZS).b.length = n from frLs_len _ _ _ _] at this
    rw [if_neg h0, show X.own = 1 by omega]
    exact this
/-- The other end hears of the stream j first. -/
theorem on_st {X : XS} (h : X.fit) {j sd : Nat} (hs : sd + X.own = 1) (hj : j < X.ms) : zonE ⟨X, [], []⟩ (stM (4 * j + sd)) 0 = 0 ∧ Ids (zonX ⟨X, [], []⟩ (stM (4 * j + sd)) []) sd (j + 1) ∧ (zonX ⟨X, [], []⟩ (stM (4 * j + sd)) []).ok := by
  have hms := h.ms
  have hk0 : (⟨X, [], []⟩ : ZS).ok := by have := Zo_ok h 0 (by omega); rwa [Zo_zero] at this
  have hk : (zonX ⟨X, [], []⟩ (stM (4 * j + sd)) []).ok := hk0.zon (stM_wf _ (by omega)) (fun x hx => by cases hx)
  have hid : (stM (4 * j + sd)).s.toNat = 4 * j + sd := rfl
  have hf : findT [] [] (4 * j + sd) = none := by unfold findT; split; rfl; split <;> rfl
  have ho : ofS (stM (4 * j + sd)).k := .inl rfl
  have hn1 : ¬ ((4 * j + sd) / 2 % 2 = 1 ∨ (4 * j + sd) % 2 = X.own) := by omega
  have hn2 : ¬ X.ms ≤ (4 * j + sd) / 4 := by omega
  have hE : zonE ⟨X, [], []⟩ (stM (4 * j + sd)) 0 = 0 := by
    unfold zonE
    rw [if_pos ho]
    unfold onsE
    rw [hid, hf]
    show (if _ then (5 : Int) else if X.ms ≤ _ then 4 else _) = 0
    rw [if_neg hn1, if_neg hn2]
    exact tlE_st X _ _ _
  have hX : zonX ⟨X, [], []⟩ (stM (4 * j + sd)) [] = addT ⟨X, [], []⟩ (4 * j + sd) (tlX (frS X (4 * j + sd)) X.limit (gotT [] []) (stM (4 * j + sd)) []) := by
    unfold zonX
    rw [if_pos ho]
    unfold onsX
    rw [hid, hf]
    show (if _ then _ else if X.ms ≤ _ then _ else _) = _
    rw [if_neg hn1, if_neg hn2]
    exact if_pos (tlE_st X _ _ _)
  refine ⟨hE, ?_, hk⟩
  rw [hX] at hk ⊢
  rcases (show sd = 0 ∨ sd = 1 by omega) with e | e
  all_goals subst e
  · have := ids_left hk (by unfold addT; rw [if_pos (by omega)])
    rw [show (addT ⟨X, [], []⟩ (4 * j + 0) (tlX (frS X (4 * j + 0)) X.limit (gotT [] []) (stM (4 * j + 0)) [])).a.length = j + 1 from by
      unfold addT
      rw [if_pos (by omega)]
      show ([] ++ frLs X 0 0 ((4 * j + 0) / 4 - 0) ++ [_]).length = j + 1
      rw [List.length_append, List.length_append, frLs_len]
      simp
      try omega] at this
    exact this
  · have := ids_right hk (by unfold addT; rw [if_neg (by omega)])
    rw [show (addT ⟨X, [], []⟩ (4 * j + 1) (tlX (frS X (4 * j + 1)) X.limit (gotT [] []) (stM (4 * j + 1)) [])).b.length = j + 1 from by
      unfold addT
      rw [if_neg (by omega)]
      show ([] ++ frLs X 1 0 ((4 * j + 1) / 4 - 0) ++ [_]).length = j + 1
      rw [List.length_append, List.length_append, frLs_len]
      simp
      try omega] at this
    exact this
end
section
set_option linter.unusedVariables false
set_option linter.unusedSimpArgs false
open Go.RowKit Go.ChangeShapes Go.WideShapes Go.Deep
def xk0 : XS := xs0 false 0 0 0
def xk1 : XS := alwX xk0 0 0 1
theorem xk1_fit : xk1.fit := by constructor <;> decide
theorem xk0_fit : xk0.fit := by constructor <;> decide
theorem ZQ.at {w0 W W' : World} {s B : Nat} {O : Nat → Prop} {Z' : ZS} (h : ZQ w0 s O Z' W W') (hO : ∀ j, O j → B ≤ j) (hB : B ≤ W.heap.size) {a : World} (ha : Below B a W) : ∃ O', Zt w0 W' s O' Z' ∧ (∀ j, O' j → B ≤ j) ∧ B ≤ W'.heap.size ∧ Below B a W' := by
  obtain ⟨O', h1, h2, h3⟩ := h
  have hs := h2.size
  exact ⟨O', h1, fun j hj => by rcases h3 j hj with e | e; exact hO j e; omega, by omega, h2.below ha hB hO⟩
set_option maxRecDepth 100000 in
set_option maxHeartbeats 4000000 in
theorem known18_any (w : World) : Calls Try.prog 14 #[] w fun e w' => e = .returned (.bool true) ∧ Below w.heap.size w w' := by
  have k0 : (Zo xk0 0).ok := Zo_ok xk0_fit 0 (by omega)
  have k10 : (Zo xk1 0).ok := Zo_ok xk1_fit 0 (by omega)
  have k11 : (Zo xk1 1).ok := Zo_ok xk1_fit 1 (by omega)
  have HNEW := Lib.hid (fun W => z_new (w0 := W) (Below.refl _ W) false 0 0 0 (by omega) (by omega) (by omega))
  have HOP0 := Lib.hid (fun (w0 W : World) (s : Nat) (O : Nat → Prop) (h : Zt w0 W s O (Zo xk0 0)) => z_open h k0)
  have HOP1 := Lib.hid (fun (w0 W : World) (s : Nat) (O : Nat → Prop) (h : Zt w0 W s O (Zo xk1 0)) => z_open h k10)
  have HOP2 := Lib.hid (fun (w0 W : World) (s : Nat) (O : Nat → Prop) (h : Zt w0 W s O (Zo xk1 1)) => z_open h k11)
  rw [opX_Zo _ _ (by decide), show opI (Zo xk0 0) = 0 from rfl, show opE (Zo xk0 0) = 31 from rfl, show (if xk0.tms ≤ 0 then 0 else 0 + 1) = 0 from rfl] at HOP0
  rw [opX_Zo _ _ (by decide), show opI (Zo xk1 0) = 0 from rfl, show opE (Zo xk1 0) = 0 from rfl, show (if xk1.tms ≤ 0 then 0 else 0 + 1) = 1 from rfl] at HOP1
  rw [opX_Zo _ _ (by decide), show opI (Zo xk1 1) = 0 from rfl, show opE (Zo xk1 1) = 31 from rfl, show (if xk1.tms ≤ 1 then 1 else 1 + 1) = 1 from rfl] at HOP2
  have hp0 : (prL 0 0 0).toArray = #[.int .u64 0, .int .u64 0, .int .u64 0, .int .u64 0, .int .u8 0, .int .u8 0, .int .u8 0, .int .u8 0, .int .u8 0, .int .u8 0, .int .u8 0, .int .u8 0] := rfl
  rw [hp0] at HNEW
  have HAL := Lib.hid (fun (w0 W : World) (s : Nat) (O : Nat → Prop) (h : Zt w0 W s O (Zo xk0 0)) => z_allow (md := 0) (msd := 0) (ms := 1) h rfl rfl (by omega) (by omega) (by omega) (by decide) (by decide) (by decide))
  have hp1 : (prL 0 0 1).toArray = #[.int .u64 0, .int .u64 0, .int .u64 0, .int .u64 1, .int .u8 0, .int .u8 0, .int .u8 0, .int .u8 0, .int .u8 0, .int .u8 0, .int .u8 0, .int .u8 0] := rfl
  rw [hp1] at HAL
  have HAL2 : Hid (∀ (w0 W : World) (s : Nat) (O : Nat → Prop) (h : Zt w0 W s O (Zo xk0 0)), Calls Try.prog 6 #[.pointer (some ⟨s, 0, none⟩), .agg #[.int .u64 0, .int .u64 0, .int .u64 0, .int .u64 1, .int .u8 0, .int .u8 0, .int .u8 0, .int .u8 0, .int .u8 0, .int .u8 0, .int .u8 0, .int .u8 0]] W fun e w' => e = .returned (.tuple #[]) ∧ ZQ w0 s O (Zo xk1 0) W w') := HAL
  have HWR := Lib.hid (fun (w0 W : World) (s : Nat) (O : Nat → Prop) (v : Value) (h : Zt w0 W s O (Zo xk1 1)) => z_write_none h k11 8 (by omega) v rfl)
  have HON := Lib.hid (fun (w0 W : World) (s : Nat) (O : Nat → Prop) (h : Zt w0 W s O (Zo xk1 1)) => zon_any h k11 (by decide) (stM 4) ⟨none, 0, 0⟩ ⟨none, 0, 0⟩ [] (stM_wf 4 (by omega)) (RdP.none_ _ _ _) (Nat.le_refl _) (by decide) (fun _ => by decide))
  have hfr : frV (stM 4) ⟨none, 0, 0⟩ ⟨none, 0, 0⟩ = .agg #[.int .i64 8, .int .u64 4, .int .u64 0, .slice none 0 0, .bool false, .int .u64 0, .int .u64 0, .int .u64 0, .int .u64 0, .int .u64 0, .slice none 0 0, .int .u8 0, .int .u8 0, .int .u8 0, .int .u8 0, .int .u8 0, .int .u8 0, .int .u8 0, .int .u8 0] := rfl
  rw [hfr, show zonE (Zo xk1 1) (stM 4) ([] : List Int).length = 5 from rfl] at HON
  clear HAL hp0 hp1 hfr k0 k10 k11
  have kc := fun (w : World) (C : Array Value) (n c : Nat) => Lib.run_convert_bytes_const (P := Try.prog) w 31 5 C n c Try.underlying31 Try.underlying5
  go_enter Try.func14, Try.ntmps14
  go_wp2_with fail
  refine (HNEW.out _).mono ?_
  rintro e w1 ⟨s, O, rfl, hz, hb1, hO⟩
  rw [← Zo_zero] at hz
  have b1 := hb1.size
  clear HNEW
  go_wp2_with fail
  refine (HOP0.out _ _ _ _ hz).mono ?_
  rintro e w2 ⟨rfl, hq⟩
  obtain ⟨O2, hz2, hO2, b2, hb2⟩ := hq.at hO b1 hb1
  clear hq hz hO b1 hb1 HOP0
  go_wp2_with fail
  refine (HAL2.out _ _ _ _ hz2).mono ?_
  rintro e w3 ⟨rfl, hq⟩
  obtain ⟨O3, hz3, hO3, b3, hb3⟩ := hq.at hO2 b2 hb2
  clear hq hz2 hO2 b2 hb2 HAL2
  go_wp2_with fail
  refine (HOP1.out _ _ _ _ hz3).mono ?_
  rintro e w4 ⟨rfl, hq⟩
  obtain ⟨O4, hz4, hO4, b4, hb4⟩ := hq.at hO3 b3 hb3
  clear hq hz3 hO3 b3 hb3 HOP1
  go_wp2_with fail
  refine (HOP2.out _ _ _ _ hz4).mono ?_
  rintro e w5 ⟨rfl, hq⟩
  obtain ⟨O5, hz5, hO5, b5, hb5⟩ := hq.at hO4 b4 hb4
  clear hq hz4 hO4 b4 hb4 HOP2
  go_wp2_with fail
  have ba : Below w5.heap.size w5 (w5.alloc (.cells #[.int .u8 97] 5 (1, 2))) := (Below.refl _ _).alloc (Nat.le_refl _) _
  have hz6 := hz5.below ba
  have hb6 := hb5.trans (ba.mono b5)
  have b6 := ba.size
  refine (HWR.out _ _ _ _ _ hz6).mono ?_
  rintro e w6 ⟨rfl, hw⟩
  rw [← hw] at hz6 hb6 b6
  have b7 : w.heap.size ≤ w6.heap.size := by omega
  clear hw ba hz5 hb5 b6 b5 HWR
  go_wp2_with (first | (go_at_call 9; (with_reducible refine (HON.out _ _ _ _ hz6).mono ?_); rintro e w8 ⟨rfl, hq⟩; obtain ⟨O8, hz8, hO8, b8, hb8⟩ := hq.at hO5 b7 hb6; clear hq) | fail)
  go_ret
  exact ⟨rfl, hb8⟩
end
section
set_option linter.unusedVariables false
set_option linter.unusedSimpArgs false
open Go.RowKit
theorem ids_row {w : World} {B : Nat} {v : Value} {Z : ZS} {sd n : Nat} (h : Ids Z sd n) (ho : Ow w B 22 v ((riseT Z.a Z.b).map fun T => .int .u64 T.id)) :
    ∃ A c, v = .slice A n c ∧ n ≤ c ∧ c ≤ maxLen ∧ ∀ i < n, ∃ g, A = some ⟨g, 0, none⟩ ∧ w.cell? ⟨g, i, none⟩ = some (.int .u64 ((4 * i + sd : Nat) : Int)) := by
  obtain ⟨hn, hi⟩ := h
  obtain ⟨A, c, hv, h1, h2, h3⟩ := ow_open ho
  rw [List.length_map, hn] at hv h1
  refine ⟨A, c, hv, h1, h2, fun i hin => ?_⟩
  obtain ⟨T, hT, hid⟩ := hi i hin
  rcases h3 with ⟨_, _, h3⟩ | ⟨g, cur, hA, _, _, hAt, _, ht⟩
  · exfalso
    have := List.map_eq_nil_iff.1 h3
    rw [this] at hn
    simp at hn
    omega
  · refine ⟨g, hA, ?_⟩
    rw [hAt.cell]
    have e : (cur.take ((riseT Z.a Z.b).map fun T => (.int .u64 T.id : Value)).length)[i]? = cur[i]? := by
      rw [List.getElem?_take, if_pos (by rw [List.length_map, hn]; exact hin)]
    rw [← e, ht, List.getElem?_map, hT]
    show some (Value.int .u64 (T.id : Int)) = _
    rw [hid]
/-- Both ends. -/
structure SoL (w wr : World) (s t : Nat) (Os Ot : Nat → Prop) (Z1 Z2 : ZS) : Prop where
  a : Zt w wr s Os Z1
  b : Zt w wr t Ot Z2
  d : ∀ j, Os j → ¬ Ot j
  bl : Below w.heap.size w wr
section
variable {w wr w' : World} {s t : Nat} {Os Ot : Nat → Prop} {Z1 Z2 Z' : ZS}
theorem SoL.left (h : SoL w wr s t Os Ot Z1 Z2) (hq : ZQ w s Os Z' wr w') : ∃ Os', SoL w w' s t Os' Ot Z' Z2 := by
  obtain ⟨O', h1, h2, h3⟩ := hq
  exact ⟨O', h1, h.b.kept h2 (fun j hj hs => h.d j hs hj) (fun j hj => (h.a.lt j hj).1), fun j hj hk => by rcases h3 j hj with e | e; exact h.d j e hk; have := (h.b.lt j hk).2; omega, h2.below h.bl h.bl.size fun j hj => (h.a.lt j hj).1⟩
theorem SoL.right (h : SoL w wr s t Os Ot Z1 Z2) (hq : ZQ w t Ot Z' wr w') : ∃ Ot', SoL w w' s t Os Ot' Z1 Z' := by
  obtain ⟨O', h1, h2, h3⟩ := hq
  exact ⟨O', h.a.kept h2 (fun j hj hs => h.d j hj hs) (fun j hj => (h.b.lt j hj).1), h1, fun j hj hk => by rcases h3 j hk with e | e; exact h.d j hj e; have := (h.a.lt j hj).2; omega, h2.below h.bl h.bl.size fun j hj => (h.b.lt j hj).1⟩
theorem SoL.below (h : SoL w wr s t Os Ot Z1 Z2) (k : Below wr.heap.size wr w') : SoL w w' s t Os Ot Z1 Z2 := ⟨h.a.below k, h.b.below k, h.d, h.bl.trans (k.mono h.bl.size)⟩
end
def xsA (sv : Bool) (k : Nat) : XS := alwX (xs0 sv 100000 9999 99) 100 100 k
theorem xsA_fit (sv : Bool) (k : Nat) : (xsA sv k).fit := by
  refine ⟨?_, ?_, ?_, ?_, ?_⟩
  · show min 99 8 ≤ 99999; omega
  · show min 9999 2048 < _; omega
  · show max 0 100 < _; omega
  · show 100000 < _; omega
  · cases sv
    · exact Nat.zero_le _
    · exact Nat.le_refl _
theorem xsN_fit (sv : Bool) : (xs0 sv 100000 9999 99).fit := by
  refine ⟨?_, ?_, ?_, ?_, ?_⟩
  · show min 99 8 ≤ 99999; omega
  · show min 9999 2048 < _; omega
  · show 0 < _; omega
  · show 100000 < _; omega
  · cases sv
    · exact Nat.zero_le _
    · exact Nat.le_refl _
theorem xsA_tms (sv : Bool) (k : Nat) : (xsA sv k).tms = min k 8 := by
  show max 0 (min k 8) = _
  omega

set_option maxRecDepth 100000 in
set_option maxHeartbeats 16000000 in
theorem sopen_false (n of : Int) (w : World) (hn : (Lit.int .i64 n).wf = true) (hof : (Lit.int .i64 of).wf = true) :
    Calls Try.prog 4 #[.bool false, .int .i64 n, .int .i64 of] w fun e w' => e = .returned (.bool true) ∧ Below w.heap.size w w' := by
  have bn := bounds_i64 hn
  have bo := bounds_i64 hof
  have HW1 := Lib.hid (fun W => within_any n 0 12 W (by omega) (by omega) (by omega) (by omega) (by omega))
  have HW2 := Lib.hid (fun W => within_any of 0 7 W (by omega) (by omega) (by omega) (by omega) (by omega))
  obtain ⟨ka, kb⟩ := withinS_bd n 0 12 (by omega)
  obtain ⟨ja, jb⟩ := withinS_bd of 0 7 (by omega)
  obtain ⟨k, hk⟩ : ∃ k : Nat, withinS n 0 12 = (k : Int) := ⟨(withinS n 0 12).toNat, by omega⟩
  obtain ⟨j, hj⟩ : ∃ k : Nat, withinS of 0 7 = (k : Int) := ⟨(withinS of 0 7).toNat, by omega⟩
  rw [hk] at HW1 ka kb
  rw [hj] at HW2 ja jb
  obtain ⟨tm, htm⟩ : ∃ m, min k 8 = m := ⟨_, rfl⟩
  have zmn : (if (8 : Int) < (k : Int) then (8 : Int) else (k : Int)) = (tm : Int) := by rw [← htm]; split <;> omega
  have hwk : IntKind.u64.wrap (k : Int) = (k : Int) := by rw [IntKind.wrap_u64]; omega
  have HX1 : Hid ((xsA false k).tms = tm) := Lib.hid (by rw [xsA_tms, htm])
  have HNS := Lib.hid (fun (W : World) (hb : Below w.heap.size w W) => z_new hb false 100000 9999 99 (by omega) (by omega) (by omega))
  have HNT := Lib.hid (fun (W : World) (hb : Below w.heap.size w W) => z_new hb true 100000 9999 99 (by omega) (by omega) (by omega))
  have hp0 : (prL 100000 9999 99).toArray = #[.int .u64 0, .int .u64 100000, .int .u64 9999, .int .u64 99, .int .u8 0, .int .u8 0, .int .u8 0, .int .u8 0, .int .u8 0, .int .u8 0, .int .u8 0, .int .u8 0] := rfl
  have HPA := Lib.hid params63
  rw [hp0] at HNS HNT HPA
  have HAL : Hid (∀ (W : World) (s : Nat) (O : Nat → Prop) (h : Zt w W s O ⟨xs0 false 100000 9999 99, [], []⟩), Calls Try.prog 6 #[.pointer (some ⟨s, 0, none⟩), .agg #[.int .u64 0, .int .u64 100, .int .u64 100, .int .u64 (k : Int), .int .u8 0, .int .u8 0, .int .u8 0, .int .u8 0, .int .u8 0, .int .u8 0, .int .u8 0, .int .u8 0]] W fun e w' => e = .returned (.tuple #[]) ∧ ZQ w s O (Zo (xsA false k) 0) W w') := Lib.hid (fun W s O h => by
    rw [Zo_zero]
    exact z_allow h rfl rfl 100 100 k (by omega) (by omega) (by omega) (by show 0 < _; omega) (by show 0 < _; omega) (by show 0 < _; omega))
  have HOPA : Hid (∀ (W : World) (s i : Nat) (O : Nat → Prop) (h : Zt w W s O (Zo (xsA false k) i)), i < tm → Calls Try.prog 17 #[.pointer (some ⟨s, 0, none⟩)] W fun e w' => e = .returned (.tuple #[.int .u64 (4 * (i : Int)), .int .i64 0]) ∧ ZQ w s O (Zo (xsA false k) (i + 1)) W w') := Lib.hid (fun W s i O h hi => by
    have h2 := z_open h (Zo_ok (xsA_fit _ _) i (by omega))
    unfold opI opE at h2
    rw [opX_Zo _ _ (xsA_fit _ _).own, lenO_Zo, Zo_X, HX1.out, if_neg (by omega), if_neg (by omega), if_neg (by omega)] at h2
    have e : ((4 * i + (xsA false k).own : Nat) : Int) = 4 * (i : Int) := by show ((4 * i + 0 : Nat) : Int) = _; omega
    rw [e] at h2
    exact h2)
  have HOPB : Hid (∀ (W : World) (s : Nat) (O : Nat → Prop) (h : Zt w W s O (Zo (xsA false k) tm)), Calls Try.prog 17 #[.pointer (some ⟨s, 0, none⟩)] W fun e w' => e = .returned (.tuple #[.int .u64 0, .int .i64 31]) ∧ ZQ w s O (Zo (xsA false k) tm) W w') := Lib.hid (fun W s O h => by
    have h2 := z_open h (Zo_ok (xsA_fit _ _) tm (by omega))
    unfold opI opE at h2
    rw [opX_Zo _ _ (xsA_fit _ _).own, lenO_Zo, Zo_X, HX1.out, if_pos (Nat.le_refl _), if_pos (Nat.le_refl _), if_pos (Nat.le_refl _)] at h2
    exact h2)
  obtain ⟨Z2, hZ2⟩ : ∃ Z, zonX ⟨xs0 true 100000 9999 99, [], []⟩ (stM (4 * j + 0)) [] = Z := ⟨_, rfl⟩
  obtain ⟨q1, q2, q3⟩ := on_st (xsN_fit true) (j := j) (sd := 0) (by decide) (by show j < min 99 8; omega)
  rw [hZ2] at q2 q3
  have HON : Hid (∀ (W : World) (t : Nat) (O : Nat → Prop) (h : Zt w W t O ⟨xs0 true 100000 9999 99, [], []⟩), Calls Try.prog 9 #[.pointer (some ⟨t, 0, none⟩), .agg #[.int .i64 8, .int .u64 (4 * (j : Int)), .int .u64 0, .slice none 0 0, .bool false, .int .u64 0, .int .u64 0, .int .u64 0, .int .u64 0, .int .u64 0, .slice none 0 0, .int .u8 0, .int .u8 0, .int .u8 0, .int .u8 0, .int .u8 0, .int .u8 0, .int .u8 0, .int .u8 0]] W fun e w' => e = .returned (.int .i64 0) ∧ ZQ w t O Z2 W w') := Lib.hid (fun W t O h => by
    have k0 : (⟨xs0 true 100000 9999 99, [], []⟩ : ZS).ok := by have := Zo_ok (xsN_fit true) 0 (by omega); rwa [Zo_zero] at this
    have h2 := zon_any h k0 (by show 0 < _; omega) (stM (4 * j + 0)) ⟨none, 0, 0⟩ ⟨none, 0, 0⟩ [] (stM_wf _ (by omega)) (RdP.none_ _ _ _) (Nat.le_refl _) (by show 0 < _; omega) (fun _ => by show 0 + 0 < _; omega)
    rw [hZ2, show zonE ⟨xs0 true 100000 9999 99, [], []⟩ (stM (4 * j + 0)) ([] : List Int).length = 0 from q1] at h2
    have e : ((4 * j + 0 : Nat) : Int) = 4 * (j : Int) := by omega
    have hfr : frV (stM (4 * j + 0)) ⟨none, 0, 0⟩ ⟨none, 0, 0⟩ = .agg #[.int .i64 8, .int .u64 (4 * (j : Int)), .int .u64 0, .slice none 0 0, .bool false, .int .u64 0, .int .u64 0, .int .u64 0, .int .u64 0, .int .u64 0, .slice none 0 0, .int .u8 0, .int .u8 0, .int .u8 0, .int .u8 0, .int .u8 0, .int .u8 0, .int .u8 0, .int .u8 0] := by
      rw [← e]
      rfl
    rw [hfr] at h2
    exact h2)
  have HIT := Lib.hid (fun (W : World) (t : Nat) (O : Nat → Prop) (h : Zt w W t O Z2) => z_ids h q3)
  have HIS := Lib.hid (fun (W : World) (s : Nat) (O : Nat → Prop) (h : Zt w W s O (Zo (xsA false k) tm)) => z_ids h (Zo_ok (xsA_fit _ _) tm (by omega)))
  have HR2 : Hid (∀ (W : World) (B : Nat) (v : Value), Ow W B 22 v ((riseT Z2.a Z2.b).map fun T => .int .u64 T.id) → ∃ A c, v = .slice A (j + 1) c ∧ j + 1 ≤ c ∧ c ≤ maxLen ∧ ∀ i < j + 1, ∃ g, A = some ⟨g, 0, none⟩ ∧ W.cell? ⟨g, i, none⟩ = some (.int .u64 ((4 * i + 0 : Nat) : Int))) := Lib.hid (fun W B v h => ids_row q2 h)
  have HR1 : Hid (∀ (W : World) (B : Nat) (v : Value), Ow W B 22 v ((riseT (Zo (xsA false k) tm).a (Zo (xsA false k) tm).b).map fun T => .int .u64 T.id) → ∃ A c, v = .slice A tm c ∧ tm ≤ c ∧ c ≤ maxLen) := Lib.hid (fun W B v h => by
    obtain ⟨A, c, h1, h2, h3, _⟩ := ids_row (ids_Zo (xsA_fit _ _) tm (by omega)) h
    exact ⟨A, c, h1, h2, h3⟩)
  have HKN := Lib.hid known18_any
  have hwj1 : IntKind.i64.wrap (4 * (j : Int)) = 4 * (j : Int) := by rw [IntKind.wrap_i64]; omega
  have hwj2 : IntKind.u64.wrap (4 * (j : Int)) = 4 * (j : Int) := by rw [IntKind.wrap_u64]; omega
  have hwj3 : IntKind.u64.wrap (4 * (j : Int)) = 4 * (j : Int) := by rw [IntKind.wrap_u64]; omega
  have hwj4 : IntKind.i64.wrap ((j : Int) + 1) = (j : Int) + 1 := by rw [IntKind.wrap_i64]; omega
  clear q1 q2 q3 hZ2 hn hof hk hj bn bo hp0
  go_enter Try.func4, Try.ntmps4
  go_wp2_with fail
  refine (HW1.out _).mono ?_
  rintro e w0 ⟨rfl, rfl⟩
  go_wp2_with fail
  refine (HPA.out _).mono ?_
  rintro e w1 ⟨rfl, b1⟩
  go_wp2_with fail
  refine (HNS.out _ b1).mono ?_
  rintro e w2 ⟨s, Os, rfl, hs2, b2, hos⟩
  have b12 := b1.trans (b2.mono b1.size)
  go_wp2_with fail
  refine (HPA.out _).mono ?_
  rintro e w3 ⟨rfl, b3⟩
  have hs3 := hs2.below b3
  have b13 := b12.trans (b3.mono b12.size)
  go_wp2_with fail
  refine (HNT.out _ b13).mono ?_
  rintro e w4 ⟨t, Ot, rfl, ht4, b4, hot⟩
  have hL4 : SoL w w4 s t Os Ot ⟨xs0 false 100000 9999 99, [], []⟩ ⟨xs0 true 100000 9999 99, [], []⟩ := ⟨hs3.below b4, ht4, fun j h1 h2 => by have := (hs3.lt j h1).2; have := hot j h2; omega, b13.trans (b4.mono b13.size)⟩
  clear hs2 hs3 ht4 b1 b2 b3 b4 b12 b13 hos hot HNS HNT HPA
  go_wp2_with fail
  refine (HAL.out _ _ _ hL4.a).mono ?_
  rintro e w5 ⟨rfl, hq⟩
  obtain ⟨Os5, hL5⟩ := hL4.left hq
  have HL5 := Lib.hid hL5
  clear hq hL4 hL5 HAL
  go_wp2_with fail
  go_loopg [11] 14 (fun kx s11 wr => ∃ i : Nat, s11 = .int .i64 i ∧ i ≤ 14 ∧ 14 - i ≤ kx ∧ Hid (∃ Os, SoL w wr s t Os Ot (Zo (xsA false k) (min i tm)) ⟨xs0 true 100000 9999 99, [], []⟩))
  case atStart => exact ⟨0, by simp, by omega, by omega, Lib.hid ⟨_, by rw [Nat.zero_min]; exact HL5.out⟩⟩
  case round =>
    clear HL5
    obtain ⟨i, rfl, hi14, hkx, HI⟩ := hrel
    by_cases hgo : i < 14
    · have hkz : (i : Int) < 14 := by omega
      obtain ⟨Oi, hL⟩ := HI.out
      clear HI
      by_cases hit : i < tm
      · have hiz : (i : Int) < (tm : Int) := by omega
        have hw1 : IntKind.i64.wrap (4 * (i : Int)) = 4 * (i : Int) := by rw [IntKind.wrap_i64]; omega
        have hw2 : IntKind.u64.wrap (4 * (i : Int)) = 4 * (i : Int) := by rw [IntKind.wrap_u64]; omega
        have hw3 : IntKind.u64.wrap (4 * (i : Int)) = 4 * (i : Int) := by rw [IntKind.wrap_u64]; omega
        rw [show min i tm = i by omega] at hL
        go_wp2_with (first | (go_at_call 17; (with_reducible refine (HOPA.out _ _ i _ hL.a hit).mono ?_); rintro e w6 ⟨rfl, hq⟩; have HL6 := Lib.hid (hL.left hq); clear hq) | fail)
        go_roundg (14 - (i + 1))
        case measure => omega
        case rel => exact ⟨i + 1, by simp, by omega, by omega, Lib.hid (by rw [show min (i + 1) tm = i + 1 by omega]; exact HL6.out)⟩
      · have hiz : ¬ (i : Int) < (tm : Int) := by omega
        rw [show min i tm = tm by omega] at hL
        go_wp2_with (first | (go_at_call 17; (with_reducible refine (HOPB.out _ _ _ hL.a).mono ?_); rintro e w6 ⟨rfl, hq⟩; have HL6 := Lib.hid (hL.left hq); clear hq) | fail)
        go_roundg (14 - (i + 1))
        case measure => omega
        case rel => exact ⟨i + 1, by simp, by omega, by omega, Lib.hid (by rw [show min (i + 1) tm = tm by omega]; exact HL6.out)⟩
    · have hkz : ¬ (i : Int) < 14 := by omega
      obtain ⟨Oi, hL⟩ := HI.out
      rw [show min i tm = tm by omega] at hL
      have HL := Lib.hid hL
      clear HI hL
      go_wp2_with fail
      refine (HW2.out _).mono ?_
      rintro e w7 ⟨rfl, rfl⟩
      go_wp2_with fail
      refine (HON.out _ _ _ HL.out.b).mono ?_
      rintro e w8 ⟨rfl, hq⟩
      obtain ⟨Ot8, hL8⟩ := HL.out.right hq
      have HL8 := Lib.hid hL8
      clear hq hL8 HL HON
      go_wp2_with fail
      refine (HIT.out _ _ _ HL8.out.b).mono ?_
      rintro e w9 ⟨v9, rfl, ho9, hb9⟩
      obtain ⟨A9, c9, rfl, hc9, hm9, hr9⟩ := HR2.out _ _ _ ho9
      have HL9 := Lib.hid (HL8.out.below hb9)
      have HR9 := Lib.hid hr9
      clear HL8 ho9 hr9 hb9 HIT HR2
      have hcj : ((j + 1 : Nat) : Int) = (j : Int) + 1 := by omega
      unfold maxLen at hm9
      go_wp2_with fail
      go_loopg [16] 20 (fun kx s16 wr => ∃ i : Nat, s16 = .int .i64 i ∧ i ≤ j + 1 ∧ 20 - i ≤ kx ∧ Hid (wr = w9))
      case atStart => exact ⟨0, by simp, by omega, by omega, Lib.hid rfl⟩
      case round =>
        obtain ⟨i, rfl, hi14, hkx, HI⟩ := hrel
        have hwr := HI.out
        clear HI
        subst hwr
        by_cases hgo : i < j + 1
        · have hkz : (i : Int) ≤ (j : Int) := by omega
          have hkz2 : (i : Int) < ((j + 1 : Nat) : Int) := by omega
          have hkz3 : (i : Int) < (j : Int) + 1 := by omega
          have hw1 : IntKind.i64.wrap (4 * (i : Int)) = 4 * (i : Int) := by rw [IntKind.wrap_i64]; omega
          have hw2 : IntKind.u64.wrap (4 * (i : Int)) = 4 * (i : Int) := by rw [IntKind.wrap_u64]; omega
          have hw3 : IntKind.u64.wrap (4 * (i : Int)) = 4 * (i : Int) := by rw [IntKind.wrap_u64]; omega
          obtain ⟨g, rfl, hcell⟩ := HR9.out i (by omega)
          rw [show ((4 * i + 0 : Nat) : Int) = 4 * (i : Int) by omega] at hcell
          go_wp2_with fail
          go_roundg (20 - (i + 1))
          case measure => omega
          case rel => exact ⟨i + 1, by simp, by omega, by omega, Lib.hid rfl⟩
        · have hkz : ¬ (i : Int) ≤ (j : Int) := by omega
          go_wp2_with fail
          refine (HIS.out _ _ _ HL9.out.a).mono ?_
          rintro e w10 ⟨v10, rfl, ho10, hb10⟩
          obtain ⟨A10, c10, rfl, hc10, hm10⟩ := HR1.out _ _ _ ho10
          have HB10 := Lib.hid (HL9.out.below hb10).bl
          clear HL9 ho10 hb10 HIS HR1
          go_wp2_with (first | (go_at_call 14; (with_reducible refine (HKN.out _).mono ?_); rintro e w11 ⟨rfl, hb11⟩; have HB11 := Lib.hid (HB10.out.trans (hb11.mono HB10.out.size)); clear hb11) | fail)
          go_ret
          exact ⟨rfl, HB11.out⟩

set_option maxRecDepth 100000 in
set_option maxHeartbeats 16000000 in
theorem sopen_true (n of : Int) (w : World) (hn : (Lit.int .i64 n).wf = true) (hof : (Lit.int .i64 of).wf = true) :
    Calls Try.prog 4 #[.bool true, .int .i64 n, .int .i64 of] w fun e w' => e = .returned (.bool true) ∧ Below w.heap.size w w' := by
  have bn := bounds_i64 hn
  have bo := bounds_i64 hof
  have HW1 := Lib.hid (fun W => within_any n 0 12 W (by omega) (by omega) (by omega) (by omega) (by omega))
  have HW2 := Lib.hid (fun W => within_any of 0 7 W (by omega) (by omega) (by omega) (by omega) (by omega))
  obtain ⟨ka, kb⟩ := withinS_bd n 0 12 (by omega)
  obtain ⟨ja, jb⟩ := withinS_bd of 0 7 (by omega)
  obtain ⟨k, hk⟩ : ∃ k : Nat, withinS n 0 12 = (k : Int) := ⟨(withinS n 0 12).toNat, by omega⟩
  obtain ⟨j, hj⟩ : ∃ k : Nat, withinS of 0 7 = (k : Int) := ⟨(withinS of 0 7).toNat, by omega⟩
  rw [hk] at HW1 ka kb
  rw [hj] at HW2 ja jb
  obtain ⟨tm, htm⟩ : ∃ m, min k 8 = m := ⟨_, rfl⟩
  have zmn : (if (8 : Int) < (k : Int) then (8 : Int) else (k : Int)) = (tm : Int) := by rw [← htm]; split <;> omega
  have hwk : IntKind.u64.wrap (k : Int) = (k : Int) := by rw [IntKind.wrap_u64]; omega
  have HX1 : Hid ((xsA true k).tms = tm) := Lib.hid (by rw [xsA_tms, htm])
  have HNS := Lib.hid (fun (W : World) (hb : Below w.heap.size w W) => z_new hb true 100000 9999 99 (by omega) (by omega) (by omega))
  have HNT := Lib.hid (fun (W : World) (hb : Below w.heap.size w W) => z_new hb false 100000 9999 99 (by omega) (by omega) (by omega))
  have hp0 : (prL 100000 9999 99).toArray = #[.int .u64 0, .int .u64 100000, .int .u64 9999, .int .u64 99, .int .u8 0, .int .u8 0, .int .u8 0, .int .u8 0, .int .u8 0, .int .u8 0, .int .u8 0, .int .u8 0] := rfl
  have HPA := Lib.hid params63
  rw [hp0] at HNS HNT HPA
  have HAL : Hid (∀ (W : World) (s : Nat) (O : Nat → Prop) (h : Zt w W s O ⟨xs0 true 100000 9999 99, [], []⟩), Calls Try.prog 6 #[.pointer (some ⟨s, 0, none⟩), .agg #[.int .u64 0, .int .u64 100, .int .u64 100, .int .u64 (k : Int), .int .u8 0, .int .u8 0, .int .u8 0, .int .u8 0, .int .u8 0, .int .u8 0, .int .u8 0, .int .u8 0]] W fun e w' => e = .returned (.tuple #[]) ∧ ZQ w s O (Zo (xsA true k) 0) W w') := Lib.hid (fun W s O h => by
    rw [Zo_zero]
    exact z_allow h rfl rfl 100 100 k (by omega) (by omega) (by omega) (by show 0 < _; omega) (by show 0 < _; omega) (by show 0 < _; omega))
  have HOPA : Hid (∀ (W : World) (s i : Nat) (O : Nat → Prop) (h : Zt w W s O (Zo (xsA true k) i)), i < tm → Calls Try.prog 17 #[.pointer (some ⟨s, 0, none⟩)] W fun e w' => e = .returned (.tuple #[.int .u64 (4 * (i : Int) + 1), .int .i64 0]) ∧ ZQ w s O (Zo (xsA true k) (i + 1)) W w') := Lib.hid (fun W s i O h hi => by
    have h2 := z_open h (Zo_ok (xsA_fit _ _) i (by omega))
    unfold opI opE at h2
    rw [opX_Zo _ _ (xsA_fit _ _).own, lenO_Zo, Zo_X, HX1.out, if_neg (by omega), if_neg (by omega), if_neg (by omega)] at h2
    have e : ((4 * i + (xsA true k).own : Nat) : Int) = 4 * (i : Int) + 1 := by show ((4 * i + 1 : Nat) : Int) = _; omega
    rw [e] at h2
    exact h2)
  have HOPB : Hid (∀ (W : World) (s : Nat) (O : Nat → Prop) (h : Zt w W s O (Zo (xsA true k) tm)), Calls Try.prog 17 #[.pointer (some ⟨s, 0, none⟩)] W fun e w' => e = .returned (.tuple #[.int .u64 0, .int .i64 31]) ∧ ZQ w s O (Zo (xsA true k) tm) W w') := Lib.hid (fun W s O h => by
    have h2 := z_open h (Zo_ok (xsA_fit _ _) tm (by omega))
    unfold opI opE at h2
    rw [opX_Zo _ _ (xsA_fit _ _).own, lenO_Zo, Zo_X, HX1.out, if_pos (Nat.le_refl _), if_pos (Nat.le_refl _), if_pos (Nat.le_refl _)] at h2
    exact h2)
  obtain ⟨Z2, hZ2⟩ : ∃ Z, zonX ⟨xs0 false 100000 9999 99, [], []⟩ (stM (4 * j + 1)) [] = Z := ⟨_, rfl⟩
  obtain ⟨q1, q2, q3⟩ := on_st (xsN_fit false) (j := j) (sd := 1) (by decide) (by show j < min 99 8; omega)
  rw [hZ2] at q2 q3
  have HON : Hid (∀ (W : World) (t : Nat) (O : Nat → Prop) (h : Zt w W t O ⟨xs0 false 100000 9999 99, [], []⟩), Calls Try.prog 9 #[.pointer (some ⟨t, 0, none⟩), .agg #[.int .i64 8, .int .u64 (4 * (j : Int) + 1), .int .u64 0, .slice none 0 0, .bool false, .int .u64 0, .int .u64 0, .int .u64 0, .int .u64 0, .int .u64 0, .slice none 0 0, .int .u8 0, .int .u8 0, .int .u8 0, .int .u8 0, .int .u8 0, .int .u8 0, .int .u8 0, .int .u8 0]] W fun e w' => e = .returned (.int .i64 0) ∧ ZQ w t O Z2 W w') := Lib.hid (fun W t O h => by
    have k0 : (⟨xs0 false 100000 9999 99, [], []⟩ : ZS).ok := by have := Zo_ok (xsN_fit false) 0 (by omega); rwa [Zo_zero] at this
    have h2 := zon_any h k0 (by show 0 < _; omega) (stM (4 * j + 1)) ⟨none, 0, 0⟩ ⟨none, 0, 0⟩ [] (stM_wf _ (by omega)) (RdP.none_ _ _ _) (Nat.le_refl _) (by show 0 < _; omega) (fun _ => by show 0 + 0 < _; omega)
    rw [hZ2, show zonE ⟨xs0 false 100000 9999 99, [], []⟩ (stM (4 * j + 1)) ([] : List Int).length = 0 from q1] at h2
    have e : ((4 * j + 1 : Nat) : Int) = 4 * (j : Int) + 1 := by omega
    have hfr : frV (stM (4 * j + 1)) ⟨none, 0, 0⟩ ⟨none, 0, 0⟩ = .agg #[.int .i64 8, .int .u64 (4 * (j : Int) + 1), .int .u64 0, .slice none 0 0, .bool false, .int .u64 0, .int .u64 0, .int .u64 0, .int .u64 0, .int .u64 0, .slice none 0 0, .int .u8 0, .int .u8 0, .int .u8 0, .int .u8 0, .int .u8 0, .int .u8 0, .int .u8 0, .int .u8 0] := by
      rw [← e]
      rfl
    rw [hfr] at h2
    exact h2)
  have HIT := Lib.hid (fun (W : World) (t : Nat) (O : Nat → Prop) (h : Zt w W t O Z2) => z_ids h q3)
  have HIS := Lib.hid (fun (W : World) (s : Nat) (O : Nat → Prop) (h : Zt w W s O (Zo (xsA true k) tm)) => z_ids h (Zo_ok (xsA_fit _ _) tm (by omega)))
  have HR2 : Hid (∀ (W : World) (B : Nat) (v : Value), Ow W B 22 v ((riseT Z2.a Z2.b).map fun T => .int .u64 T.id) → ∃ A c, v = .slice A (j + 1) c ∧ j + 1 ≤ c ∧ c ≤ maxLen ∧ ∀ i < j + 1, ∃ g, A = some ⟨g, 0, none⟩ ∧ W.cell? ⟨g, i, none⟩ = some (.int .u64 ((4 * i + 1 : Nat) : Int))) := Lib.hid (fun W B v h => ids_row q2 h)
  have HR1 : Hid (∀ (W : World) (B : Nat) (v : Value), Ow W B 22 v ((riseT (Zo (xsA true k) tm).a (Zo (xsA true k) tm).b).map fun T => .int .u64 T.id) → ∃ A c, v = .slice A tm c ∧ tm ≤ c ∧ c ≤ maxLen) := Lib.hid (fun W B v h => by
    obtain ⟨A, c, h1, h2, h3, _⟩ := ids_row (ids_Zo (xsA_fit _ _) tm (by omega)) h
    exact ⟨A, c, h1, h2, h3⟩)
  have HKN := Lib.hid known18_any
  have hwj1 : IntKind.i64.wrap (4 * (j : Int)) = 4 * (j : Int) := by rw [IntKind.wrap_i64]; omega
  have hwj2 : IntKind.u64.wrap (4 * (j : Int)) = 4 * (j : Int) := by rw [IntKind.wrap_u64]; omega
  have hwj3 : IntKind.u64.wrap (1 + 4 * (j : Int)) = 4 * (j : Int) + 1 := by rw [IntKind.wrap_u64]; omega
  have hwj4 : IntKind.i64.wrap ((j : Int) + 1) = (j : Int) + 1 := by rw [IntKind.wrap_i64]; omega
  clear q1 q2 q3 hZ2 hn hof hk hj bn bo hp0
  go_enter Try.func4, Try.ntmps4
  go_wp2_with fail
  refine (HW1.out _).mono ?_
  rintro e w0 ⟨rfl, rfl⟩
  go_wp2_with fail
  refine (HPA.out _).mono ?_
  rintro e w1 ⟨rfl, b1⟩
  go_wp2_with fail
  refine (HNS.out _ b1).mono ?_
  rintro e w2 ⟨s, Os, rfl, hs2, b2, hos⟩
  have b12 := b1.trans (b2.mono b1.size)
  go_wp2_with fail
  refine (HPA.out _).mono ?_
  rintro e w3 ⟨rfl, b3⟩
  have hs3 := hs2.below b3
  have b13 := b12.trans (b3.mono b12.size)
  go_wp2_with fail
  refine (HNT.out _ b13).mono ?_
  rintro e w4 ⟨t, Ot, rfl, ht4, b4, hot⟩
  have hL4 : SoL w w4 s t Os Ot ⟨xs0 true 100000 9999 99, [], []⟩ ⟨xs0 false 100000 9999 99, [], []⟩ := ⟨hs3.below b4, ht4, fun j h1 h2 => by have := (hs3.lt j h1).2; have := hot j h2; omega, b13.trans (b4.mono b13.size)⟩
  clear hs2 hs3 ht4 b1 b2 b3 b4 b12 b13 hos hot HNS HNT HPA
  go_wp2_with fail
  refine (HAL.out _ _ _ hL4.a).mono ?_
  rintro e w5 ⟨rfl, hq⟩
  obtain ⟨Os5, hL5⟩ := hL4.left hq
  have HL5 := Lib.hid hL5
  clear hq hL4 hL5 HAL
  go_wp2_with fail
  go_loopg [11] 14 (fun kx s11 wr => ∃ i : Nat, s11 = .int .i64 i ∧ i ≤ 14 ∧ 14 - i ≤ kx ∧ Hid (∃ Os, SoL w wr s t Os Ot (Zo (xsA true k) (min i tm)) ⟨xs0 false 100000 9999 99, [], []⟩))
  case atStart => exact ⟨0, by simp, by omega, by omega, Lib.hid ⟨_, by rw [Nat.zero_min]; exact HL5.out⟩⟩
  case round =>
    clear HL5
    obtain ⟨i, rfl, hi14, hkx, HI⟩ := hrel
    by_cases hgo : i < 14
    · have hkz : (i : Int) < 14 := by omega
      obtain ⟨Oi, hL⟩ := HI.out
      clear HI
      by_cases hit : i < tm
      · have hiz : (i : Int) < (tm : Int) := by omega
        have hw1 : IntKind.i64.wrap (4 * (i : Int)) = 4 * (i : Int) := by rw [IntKind.wrap_i64]; omega
        have hw2 : IntKind.u64.wrap (4 * (i : Int)) = 4 * (i : Int) := by rw [IntKind.wrap_u64]; omega
        have hw3 : IntKind.u64.wrap (1 + 4 * (i : Int)) = 4 * (i : Int) + 1 := by rw [IntKind.wrap_u64]; omega
        rw [show min i tm = i by omega] at hL
        go_wp2_with (first | (go_at_call 17; (with_reducible refine (HOPA.out _ _ i _ hL.a hit).mono ?_); rintro e w6 ⟨rfl, hq⟩; have HL6 := Lib.hid (hL.left hq); clear hq) | fail)
        go_roundg (14 - (i + 1))
        case measure => omega
        case rel => exact ⟨i + 1, by simp, by omega, by omega, Lib.hid (by rw [show min (i + 1) tm = i + 1 by omega]; exact HL6.out)⟩
      · have hiz : ¬ (i : Int) < (tm : Int) := by omega
        rw [show min i tm = tm by omega] at hL
        go_wp2_with (first | (go_at_call 17; (with_reducible refine (HOPB.out _ _ _ hL.a).mono ?_); rintro e w6 ⟨rfl, hq⟩; have HL6 := Lib.hid (hL.left hq); clear hq) | fail)
        go_roundg (14 - (i + 1))
        case measure => omega
        case rel => exact ⟨i + 1, by simp, by omega, by omega, Lib.hid (by rw [show min (i + 1) tm = tm by omega]; exact HL6.out)⟩
    · have hkz : ¬ (i : Int) < 14 := by omega
      obtain ⟨Oi, hL⟩ := HI.out
      rw [show min i tm = tm by omega] at hL
      have HL := Lib.hid hL
      clear HI hL
      go_wp2_with fail
      refine (HW2.out _).mono ?_
      rintro e w7 ⟨rfl, rfl⟩
      go_wp2_with fail
      refine (HON.out _ _ _ HL.out.b).mono ?_
      rintro e w8 ⟨rfl, hq⟩
      obtain ⟨Ot8, hL8⟩ := HL.out.right hq
      have HL8 := Lib.hid hL8
      clear hq hL8 HL HON
      go_wp2_with fail
      refine (HIT.out _ _ _ HL8.out.b).mono ?_
      rintro e w9 ⟨v9, rfl, ho9, hb9⟩
      obtain ⟨A9, c9, rfl, hc9, hm9, hr9⟩ := HR2.out _ _ _ ho9
      have HL9 := Lib.hid (HL8.out.below hb9)
      have HR9 := Lib.hid hr9
      clear HL8 ho9 hr9 hb9 HIT HR2
      have hcj : ((j + 1 : Nat) : Int) = (j : Int) + 1 := by omega
      unfold maxLen at hm9
      go_wp2_with fail
      go_loopg [16] 20 (fun kx s16 wr => ∃ i : Nat, s16 = .int .i64 i ∧ i ≤ j + 1 ∧ 20 - i ≤ kx ∧ Hid (wr = w9))
      case atStart => exact ⟨0, by simp, by omega, by omega, Lib.hid rfl⟩
      case round =>
        obtain ⟨i, rfl, hi14, hkx, HI⟩ := hrel
        have hwr := HI.out
        clear HI
        subst hwr
        by_cases hgo : i < j + 1
        · have hkz : (i : Int) ≤ (j : Int) := by omega
          have hkz2 : (i : Int) < ((j + 1 : Nat) : Int) := by omega
          have hkz3 : (i : Int) < (j : Int) + 1 := by omega
          have hw1 : IntKind.i64.wrap (4 * (i : Int)) = 4 * (i : Int) := by rw [IntKind.wrap_i64]; omega
          have hw2 : IntKind.u64.wrap (4 * (i : Int)) = 4 * (i : Int) := by rw [IntKind.wrap_u64]; omega
          have hw3 : IntKind.u64.wrap (1 + 4 * (i : Int)) = 4 * (i : Int) + 1 := by rw [IntKind.wrap_u64]; omega
          obtain ⟨g, rfl, hcell⟩ := HR9.out i (by omega)
          rw [show ((4 * i + 1 : Nat) : Int) = 4 * (i : Int) + 1 by omega] at hcell
          go_wp2_with fail
          go_roundg (20 - (i + 1))
          case measure => omega
          case rel => exact ⟨i + 1, by simp, by omega, by omega, Lib.hid rfl⟩
        · have hkz : ¬ (i : Int) ≤ (j : Int) := by omega
          go_wp2_with fail
          refine (HIS.out _ _ _ HL9.out.a).mono ?_
          rintro e w10 ⟨v10, rfl, ho10, hb10⟩
          obtain ⟨A10, c10, rfl, hc10, hm10⟩ := HR1.out _ _ _ ho10
          have HB10 := Lib.hid (HL9.out.below hb10).bl
          clear HL9 ho10 hb10 HIS HR1
          go_wp2_with (first | (go_at_call 14; (with_reducible refine (HKN.out _).mono ?_); rintro e w11 ⟨rfl, hb11⟩; have HB11 := Lib.hid (HB10.out.trans (hb11.mono HB10.out.size)); clear hb11) | fail)
          go_ret
          exact ⟨rfl, HB11.out⟩
theorem sopen_law (sv : Bool) (n of : Int) (w : World) (hn : (Lit.int .i64 n).wf = true) (hof : (Lit.int .i64 of).wf = true) :
    Calls Try.prog 4 #[.bool sv, .int .i64 n, .int .i64 of] w fun e w' => e = .returned (.bool true) ∧ Below w.heap.size w w' := by
  cases sv
  · exact sopen_false n of w hn hof
  · exact sopen_true n of w hn hof
end
end Go.Proofs.Ytndaikeeikimeaa
