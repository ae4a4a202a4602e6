/-
  head.Parse, head.First, whatever bytes.
-/
import Derived.Test.YtbioajgmceodhaaHr4
import Derived.IntWalk
namespace Go.Proofs.Ytbioajgmceodhaa
set_option linter.unusedVariables false
set_option linter.unusedSimpArgs false
open Go.RowKit
def HPPost (bs : List Int) (w : World) (e : Ending) (w' : World) : Prop :=
  (match parseS bs with
  | none => e = .returned (.tuple #[hdV HN.zero Sl.nil, .int .i64 0, .int .i64 0, .int .i64 12])
  | some x => ∃ d, e = .returned (.tuple #[hdV x.1 d, .int .i64 x.2.2.1, .int .i64 x.2.2.2, .int .i64 0]) ∧ InD w' (fun b => w.heap.size ≤ b) d x.2.1 ∧ x.1.wf) ∧ Below w.heap.size w w'
theorem HPPost.no {bs : List Int} {w w' : World} (h : parseS bs = none) (hb : Below w.heap.size w w') : HPPost bs w (.returned (.tuple #[hdV HN.zero Sl.nil, .int .i64 0, .int .i64 0, .int .i64 12])) w' := by
  unfold HPPost; rw [h]; exact ⟨rfl, hb⟩
theorem HPPost.yes {bs : List Int} {w w' : World} {m : HN} {tok : List Int} {a b : Int} {d : Sl} (h : parseS bs = some (m, tok, a, b)) (hd : InD w' (fun b => w.heap.size ≤ b) d tok) (hm : m.wf) (hb : Below w.heap.size w w') : HPPost bs w (.returned (.tuple #[hdV m d, .int .i64 a, .int .i64 b, .int .i64 0])) w' := by
  unfold HPPost; rw [h]; exact ⟨⟨d, rfl, hd, hm⟩, hb⟩
set_option maxRecDepth 100000 in
set_option maxHeartbeats 2000000 in
theorem hparse_any (A : Option Addr) (n c : Nat) (bs : List Int) (w : World) (hr : Rd w w.heap.size A n bs) (hn : n ≤ 1000000) (hA : A = none → c = 0) :
    Calls Try.prog 14 #[.slice A n c] w (HPPost bs w) := by
  have HL := Lib.hid hr.1
  have hB0 : Below w.heap.size w (w.alloc (.cells (hdL HN.zero Sl.nil).toArray 28)) := (Below.refl _ _).alloc (Nat.le_refl _) _
  have hA0 : At (w.alloc (.cells (hdL HN.zero Sl.nil).toArray 28)) w.heap.size 28 (hdL HN.zero Sl.nil) := At.new w _ _
  have hR0 : Rd (w.alloc (.cells (hdL HN.zero Sl.nil).toArray 28)) (w.alloc (.cells (hdL HN.zero Sl.nil).toArray 28)).heap.size A n bs := (hr.below hB0).more hB0.size
  have hs0 : (w.alloc (.cells (hdL HN.zero Sl.nil).toArray 28)).heap.size = w.heap.size + 1 := by simp
  clear hr
  go_enter Try.func14, Try.ntmps14
  go_wp2_with fail
  refine (of_any A n c bs _ hR0 (by omega) hA).mono ?_
  rintro e w1 ⟨p, rfl, hp, hr1, hb1⟩
  have hA1 := hA0.below hb1 (by omega)
  have hB1 := hB0.trans (hb1.mono hB0.size)
  have hs1 := hb1.size
  rw [hs0] at hp hr1 hs1
  have hpl : p < w1.heap.size := by obtain ⟨_, _, _, h, _⟩ := hr1; exact h.lt
  clear hb1 hA0 hB0 hR0 hs0
  go_wp2_with fail
  refine (hread_any p _ _ bs w1 hr1 (fun b hb => by omega) (by rw [HL.out]; exact hn)).mono ?_
  rintro e w2 ⟨m, d, tok, x, ok, s', rfl, hlk, hin2, hr2, hk2, hx0, hx1, hle, hwf⟩
  have hA2 := hA1.kept hk2 (by omega)
  have hB2 := hk2.below hB1 (by omega) (fun j hj => by omega)
  have hs2 := hk2.size
  rw [HL.out] at hle
  unfold LinkS at hlk
  rw [HL.out] at hlk
  clear hk2 hB1 hA1 hr1
  obtain ⟨L, hL⟩ : ∃ L, hdL m d = L := ⟨_, rfl⟩
  have hLl : L.length = 20 := by rw [← hL]; rfl
  have hLo : L.all (·.oneCell') = true := by rw [← hL]; rfl
  have hLv : hdV m d = .agg L.toArray := by rw [← hL]; rfl
  rw [hLv]
  have HLl := Lib.hid hLl
  have HLo := Lib.hid hLo
  have HLv := Lib.hid hLv
  have HIN := Lib.hid hin2
  clear hL hLl hLo hLv hin2
  have hA3 := hA2.alloc (.cells L.toArray 28)
  have hH3 := At.new w2 28 L
  have hB3 := hB2.alloc (by omega) (.cells L.toArray 28)
  have hr3 := hr2.kept ((Kept.refl (fun _ => False) w2).alloc (.cells L.toArray 28)) (fun h => h) (fun _ _ h => h)
  have hin3 := Lib.hid (HIN.out.kept ((Kept.refl (fun _ => False) w2).alloc (.cells L.toArray 28)) (fun _ _ h => h))
  obtain ⟨w3, hw3⟩ : ∃ x, w2.alloc (.cells L.toArray 28) = x := ⟨_, rfl⟩
  rw [hw3] at hA3 hH3 hB3 hr3 hin3
  have hz3 := hH3.lt
  clear hA2 hB2 hr2 HIN
  obtain ⟨N, hN⟩ : ∃ N, s'.1.length = N := ⟨_, rfl⟩
  rw [hN] at hle hlk
  have HNN := Lib.hid hN
  obtain ⟨bad, hbad⟩ : ∃ b, s'.2 = b := ⟨_, rfl⟩
  rw [hbad] at hlk
  have HBAD := Lib.hid hbad
  clear hN hbad
  cases ok with
  | false =>
    have hpn : parseS bs = none := by rw [hlk, if_neg (by simp)]
    have HPN := Lib.hid hpn
    clear hpn hlk
    go_wp2_with (first | ((with_reducible refine at_sth (x := .tmp 7) ?_); refine wpList_store_top w2 28 (hdL HN.zero Sl.nil) L (by rfl) _ (by rfl) (by rfl) (by rfl) (by rw [HLl.out]; rfl) (by rw [HLl.out]; exact hd_info) HLo.out ?_; rw [hw3]; clear hw3) | ((with_reducible refine at_sth (x := .tmp 2) ?_); refine st_hd _ _ (hdL HN.zero Sl.nil) (by rfl) (by rfl) hA3 (by rfl) (by rfl) (by rfl) ?_; intro w9 hA9 hk9) | fail)
    refine bodyPost_ret (results_cell_tmp3 2 3 4 5 28 (by rfl) _ 28 _ _ _ _ _ (by rfl) (by rfl) (by rfl) (by rfl) hA9 Try.underlying28 rfl hd_info) rfl ?_
    exact HPPost.no HPN.out (hk9.below hB3 (by omega) (fun j hj => by omega))
  | true =>
    cases bad with
    | true =>
      have hpn : parseS bs = none := by rw [hlk, if_neg (by simp)]
      have HPN := Lib.hid hpn
      clear hpn hlk
      go_wp2_with (first | ((with_reducible refine at_sth (x := .tmp 7) ?_); refine wpList_store_top w2 28 (hdL HN.zero Sl.nil) L (by rfl) _ (by rfl) (by rfl) (by rfl) (by rw [HLl.out]; rfl) (by rw [HLl.out]; exact hd_info) HLo.out ?_; rw [hw3]; clear hw3) | ((with_reducible refine at_sth (x := .tmp 2) ?_); refine st_hd _ _ (hdL HN.zero Sl.nil) (by rfl) (by rfl) hA3 (by rfl) (by rfl) (by rfl) ?_; intro w9 hA9 hk9) | fail)
      refine (bad_any p _ _ s' _ hr3).mono ?_
      rintro e w4 ⟨rfl, rfl⟩
      rw [HBAD.out]
      go_wp2_with (first | ((with_reducible refine at_sth (x := .tmp 7) ?_); refine wpList_store_top w2 28 (hdL HN.zero Sl.nil) L (by rfl) _ (by rfl) (by rfl) (by rfl) (by rw [HLl.out]; rfl) (by rw [HLl.out]; exact hd_info) HLo.out ?_; rw [hw3]; clear hw3) | ((with_reducible refine at_sth (x := .tmp 2) ?_); refine st_hd _ _ (hdL HN.zero Sl.nil) (by rfl) (by rfl) hA3 (by rfl) (by rfl) (by rfl) ?_; intro w9 hA9 hk9) | fail)
      refine bodyPost_ret (results_cell_tmp3 2 3 4 5 28 (by rfl) _ 28 _ _ _ _ _ (by rfl) (by rfl) (by rfl) (by rfl) hA9 Try.underlying28 rfl hd_info) rfl ?_
      exact HPPost.no HPN.out (hk9.below hB3 (by omega) (fun j hj => by omega))
    | false =>
      by_cases h12 : x < 12
      · have hpn : parseS bs = none := by rw [hlk, if_neg (by intro h; have := h.2.2.1; omega)]
        have HPN := Lib.hid hpn
        clear hpn hlk
        go_wp2_with (first | ((with_reducible refine at_sth (x := .tmp 7) ?_); refine wpList_store_top w2 28 (hdL HN.zero Sl.nil) L (by rfl) _ (by rfl) (by rfl) (by rfl) (by rw [HLl.out]; rfl) (by rw [HLl.out]; exact hd_info) HLo.out ?_; rw [hw3]; clear hw3) | ((with_reducible refine at_sth (x := .tmp 2) ?_); refine st_hd _ _ (hdL HN.zero Sl.nil) (by rfl) (by rfl) hA3 (by rfl) (by rfl) (by rfl) ?_; intro w9 hA9 hk9) | fail)
        refine (bad_any p _ _ s' _ hr3).mono ?_
        rintro e w4 ⟨rfl, rfl⟩
        rw [HBAD.out]
        go_wp2_with (first | ((with_reducible refine at_sth (x := .tmp 7) ?_); refine wpList_store_top w2 28 (hdL HN.zero Sl.nil) L (by rfl) _ (by rfl) (by rfl) (by rfl) (by rw [HLl.out]; rfl) (by rw [HLl.out]; exact hd_info) HLo.out ?_; rw [hw3]; clear hw3) | ((with_reducible refine at_sth (x := .tmp 2) ?_); refine st_hd _ _ (hdL HN.zero Sl.nil) (by rfl) (by rfl) hA3 (by rfl) (by rfl) (by rfl) ?_; intro w9 hA9 hk9) | fail)
        refine bodyPost_ret (results_cell_tmp3 2 3 4 5 28 (by rfl) _ 28 _ _ _ _ _ (by rfl) (by rfl) (by rfl) (by rfl) hA9 Try.underlying28 rfl hd_info) rfl ?_
        exact HPPost.no HPN.out (hk9.below hB3 (by omega) (fun j hj => by omega))
      by_cases hxN : (N : Int) < x
      · have hpn : parseS bs = none := by rw [hlk, if_neg (by intro h; have := h.2.2.2; omega)]
        have HPN := Lib.hid hpn
        clear hpn hlk
        go_wp2_with (first | ((with_reducible refine at_sth (x := .tmp 7) ?_); refine wpList_store_top w2 28 (hdL HN.zero Sl.nil) L (by rfl) _ (by rfl) (by rfl) (by rfl) (by rw [HLl.out]; rfl) (by rw [HLl.out]; exact hd_info) HLo.out ?_; rw [hw3]; clear hw3) | ((with_reducible refine at_sth (x := .tmp 2) ?_); refine st_hd _ _ (hdL HN.zero Sl.nil) (by rfl) (by rfl) hA3 (by rfl) (by rfl) (by rfl) ?_; intro w9 hA9 hk9) | fail)
        refine (bad_any p _ _ s' _ hr3).mono ?_
        rintro e w4 ⟨rfl, rfl⟩
        rw [HBAD.out]
        go_wp2_with (first | ((with_reducible refine at_sth (x := .tmp 7) ?_); refine wpList_store_top w2 28 (hdL HN.zero Sl.nil) L (by rfl) _ (by rfl) (by rfl) (by rfl) (by rw [HLl.out]; rfl) (by rw [HLl.out]; exact hd_info) HLo.out ?_; rw [hw3]; clear hw3) | ((with_reducible refine at_sth (x := .tmp 2) ?_); refine st_hd _ _ (hdL HN.zero Sl.nil) (by rfl) (by rfl) hA3 (by rfl) (by rfl) (by rfl) ?_; intro w9 hA9 hk9) | fail)
        refine (left_any p _ _ s' _ hr3).mono ?_
        rintro e w5 ⟨rfl, rfl⟩
        rw [HNN.out]
        go_wp2_with (first | ((with_reducible refine at_sth (x := .tmp 7) ?_); refine wpList_store_top w2 28 (hdL HN.zero Sl.nil) L (by rfl) _ (by rfl) (by rfl) (by rfl) (by rw [HLl.out]; rfl) (by rw [HLl.out]; exact hd_info) HLo.out ?_; rw [hw3]; clear hw3) | ((with_reducible refine at_sth (x := .tmp 2) ?_); refine st_hd _ _ (hdL HN.zero Sl.nil) (by rfl) (by rfl) hA3 (by rfl) (by rfl) (by rfl) ?_; intro w9 hA9 hk9) | fail)
        refine bodyPost_ret (results_cell_tmp3 2 3 4 5 28 (by rfl) _ 28 _ _ _ _ _ (by rfl) (by rfl) (by rfl) (by rfl) hA9 Try.underlying28 rfl hd_info) rfl ?_
        exact HPPost.no HPN.out (hk9.below hB3 (by omega) (fun j hj => by omega))
      · have hpy : parseS bs = some (m, tok, (n : Int) - N, (n : Int) - N + x) := by rw [hlk, if_pos ⟨rfl, rfl, by omega, by omega⟩]
        have HPY := Lib.hid hpy
        clear hpy hlk
        go_wp2_with (first | ((with_reducible refine at_sth (x := .tmp 7) ?_); refine wpList_store_top w2 28 (hdL HN.zero Sl.nil) L (by rfl) _ (by rfl) (by rfl) (by rfl) (by rw [HLl.out]; rfl) (by rw [HLl.out]; exact hd_info) HLo.out ?_; rw [hw3]; clear hw3) | ((with_reducible refine at_sth (x := .tmp 2) ?_); refine st_hd _ _ (hdL HN.zero Sl.nil) (by rfl) (by rfl) hA3 (by rfl) (by rfl) (by rfl) ?_; intro w9 hA9 hk9) | fail)
        refine (bad_any p _ _ s' _ hr3).mono ?_
        rintro e w4 ⟨rfl, rfl⟩
        rw [HBAD.out]
        go_wp2_with (first | ((with_reducible refine at_sth (x := .tmp 7) ?_); refine wpList_store_top w2 28 (hdL HN.zero Sl.nil) L (by rfl) _ (by rfl) (by rfl) (by rfl) (by rw [HLl.out]; rfl) (by rw [HLl.out]; exact hd_info) HLo.out ?_; rw [hw3]; clear hw3) | ((with_reducible refine at_sth (x := .tmp 2) ?_); refine st_hd _ _ (hdL HN.zero Sl.nil) (by rfl) (by rfl) hA3 (by rfl) (by rfl) (by rfl) ?_; intro w9 hA9 hk9) | fail)
        refine (left_any p _ _ s' _ hr3).mono ?_
        rintro e w5 ⟨rfl, rfl⟩
        rw [HNN.out]
        go_wp2_with (first | ((with_reducible refine at_sth (x := .tmp 7) ?_); refine wpList_store_top w2 28 (hdL HN.zero Sl.nil) L (by rfl) _ (by rfl) (by rfl) (by rfl) (by rw [HLl.out]; rfl) (by rw [HLl.out]; exact hd_info) HLo.out ?_; rw [hw3]; clear hw3) | ((with_reducible refine at_sth (x := .tmp 2) ?_); refine st_hd _ _ (hdL HN.zero Sl.nil) (by rfl) (by rfl) hA3 (by rfl) (by rfl) (by rfl) ?_; intro w9 hA9 hk9) | fail)
        refine (left_any p _ _ s' _ hr3).mono ?_
        rintro e w5 ⟨rfl, rfl⟩
        rw [HNN.out]
        go_wp2_with (first | ((with_reducible refine at_ldh ?_); refine ld_hd _ _ (by rfl) hH3 HLl.out ?_) | ((with_reducible refine at_sth (x := .tmp 2) ?_); refine st_hd _ _ L (by rfl) (by rfl) hA3 (by rfl) HLl.out HLo.out ?_; intro w9 hA9 hk9) | fail)
        refine bodyPost_ret (results_cell_tmp3 2 3 4 5 28 (by rfl) _ 28 _ _ _ _ _ (by rfl) (by rfl) (by rfl) (by rfl) hA9 Try.underlying28 rfl (by rw [HLl.out]; exact hd_info)) rfl ?_
        have hfin := HPPost.yes (d := d) HPY.out ((hin3.out.kept hk9 (fun b hb e => by omega)).mono (P' := fun b => w.heap.size ≤ b) (fun b _ hb => by omega)) hwf (hk9.below hB3 (by omega) (fun j hj => by omega))
        rw [HLv.out] at hfin
        exact hfin
section
variable {P : Program} {ops : Array Oper} {rest : List Oper} {a : Act} {w : World} {Q : Exit → Act → World → Prop} {dst : Option Tmp} {x y : Operand} {ty t : TypeId} {pos : String} {after : Array Edge}
theorem wpList_load_off (p off : Nat) (l : List Value) (d : TypeDesc) (hx : a.eval x = .pointer (some ⟨p, off, none⟩)) (hA : w.rangeAt p off l) (hu : P.underlying ty = some d) (hd : d.isRow = true)
    (hi : (P.info? ty).map (·.size) = some l.length) (h : wpList P ops Q rest (a.put dst (.agg l.toArray)) w) : wpList P ops Q (⟨dst, .load ty x, t, pos, after, none⟩ :: rest) a w :=
  wpList_load_mid rfl ty x rfl p off hx l d hA hu hd hi h
end
def FirstPost (bs : List Int) (w : World) (e : Ending) (w' : World) : Prop :=
  e = .returned (.tuple #[(match parseS bs with | none => N8.zero | some x => x.1.t).v, .bool (parseS bs).isSome]) ∧ Below w.heap.size w w'
set_option maxRecDepth 100000 in
set_option maxHeartbeats 2000000 in
theorem hfirst_any (A : Option Addr) (n c : Nat) (bs : List Int) (w : World) (hr : Rd w w.heap.size A n bs) (hn : n ≤ 1000000) (hA : A = none → c = 0) :
    Calls Try.prog 15 #[.slice A n c] w (FirstPost bs w) := by
  have hB0 : Below w.heap.size w (w.alloc (.cells (List.replicate 8 (Value.int .u8 0)).toArray 26)) := (Below.refl _ _).alloc (Nat.le_refl _) _
  have hA0 : At (w.alloc (.cells (List.replicate 8 (Value.int .u8 0)).toArray 26)) w.heap.size 26 (List.replicate 8 (Value.int .u8 0)) := At.new w _ _
  have hR0 : Rd (w.alloc (.cells (List.replicate 8 (Value.int .u8 0)).toArray 26)) (w.alloc (.cells (List.replicate 8 (Value.int .u8 0)).toArray 26)).heap.size A n bs := (hr.below hB0).more hB0.size
  clear hr
  go_enter Try.func15, Try.ntmps15
  go_wp2_with fail
  refine (hparse_any A n c bs _ hR0 hn hA).mono ?_
  intro e w1 hpost
  obtain ⟨hm, hb1⟩ := hpost
  have hA1 := hA0.below hb1 hA0.lt
  have hB1 := hB0.trans (hb1.mono hB0.size)
  have hz1 := hA1.lt
  clear hb1 hA0 hB0 hR0
  have key : ∃ m d a b why, e = .returned (.tuple #[hdV m d, .int .i64 a, .int .i64 b, .int .i64 why]) ∧ (match parseS bs with | none => N8.zero | some x => x.1.t) = m.t ∧ (why = 0 ∨ why = 12) ∧ (parseS bs).isSome = (why == 0) := by
    cases hp : parseS bs with
    | none => rw [hp] at hm; exact ⟨_, _, _, _, _, hm, rfl, .inr rfl, rfl⟩
    | some x => rw [hp] at hm; obtain ⟨d, he, _⟩ := hm; exact ⟨_, _, _, _, _, he, rfl, .inl rfl, rfl⟩
  obtain ⟨m, d, a, b, why, rfl, k1, k2, k3⟩ := key
  have hC1 : hdL m d = Value.int .i64 m.s :: (m.t.l.map (Value.int .u8) ++ (m.f.l.map (Value.int .u8) ++ [.slice d.A d.n d.c, .int .i64 m.w, .bool m.ph])) := rfl
  clear hm
  obtain ⟨L, hL⟩ : ∃ L, hdL m d = L := ⟨_, rfl⟩
  obtain ⟨R, hR⟩ : ∃ R, m.f.l.map (Value.int .u8) ++ [.slice d.A d.n d.c, .int .i64 m.w, .bool m.ph] = R := ⟨_, rfl⟩
  have hLl : L.length = 20 := by rw [← hL]; rfl
  have hLo : L.all (·.oneCell') = true := by rw [← hL]; rfl
  have hLv : hdV m d = .agg L.toArray := by rw [← hL]; rfl
  rw [hL, hR] at hC1
  rw [hLv]
  obtain ⟨C, hC⟩ : ∃ C, m.t.l.map (Value.int .u8) = C := ⟨_, rfl⟩
  have hCl : C.length = 8 := by rw [← hC]; rfl
  have hCo : C.all (·.oneCell') = true := by rw [← hC]; rfl
  have hCv : m.t.v = .agg C.toArray := by rw [N8.v_l, hC]
  rw [hC] at hC1
  have HLl := Lib.hid hLl
  have HLo := Lib.hid hLo
  have HCl := Lib.hid hCl
  have HCo := Lib.hid hCo
  have HCv := Lib.hid hCv
  have HC1 := Lib.hid hC1
  have K1 := Lib.hid k1
  have K3 := Lib.hid k3
  clear hL hR hLl hLo hLv hC hCl hCo hCv hC1 k1 k3
  have hA2 := hA1.alloc (.cells L.toArray 28)
  have hH2 := At.new w1 28 L
  have hB2 := hB1.alloc (by omega) (.cells L.toArray 28)
  obtain ⟨w2, hw2⟩ : ∃ x, w1.alloc (.cells L.toArray 28) = x := ⟨_, rfl⟩
  rw [hw2] at hA2 hH2 hB2
  have hz2 := hA2.lt
  have hrg : w2.rangeAt w1.heap.size 1 C := by
    intro j v hj
    have hj8 : j < C.length := (List.getElem?_eq_some_iff.1 hj).1
    rw [hH2.cell, HC1.out, Nat.add_comm 1 j, List.getElem?_cons_succ, List.getElem?_append_left hj8]
    exact hj
  go_wp2_with (first | ((with_reducible refine at_sth (x := .tmp 4) ?_); refine wpList_store_top w1 28 (hdL HN.zero Sl.nil) L (by rfl) _ (by rfl) (by rfl) (by rfl) (by rw [HLl.out]; rfl) (by rw [HLl.out]; exact hd_info) HLo.out ?_; rw [hw2]) | (refine wpList_load_off (ty := 26) w1.heap.size 1 C _ (by rfl) hrg Try.underlying26 rfl (by rw [HCl.out]; exact cid_info) ?_) | (refine wpList_store_at (ty := 26) w.heap.size _ (List.replicate 8 (Value.int .u8 0)) C (by rfl) (by rfl) hA2 (by rw [HCl.out]; rfl) (by rw [HCl.out]; exact cid_info) HCo.out ?_; intro w3 hA3 hk3) | fail)
  refine bodyPost_ret (results_cell_tmp 2 3 26 (by rfl) _ 26 _ _ _ (by rfl) (by rfl) hA3 Try.underlying26 rfl (by rw [HCl.out]; exact cid_info)) rfl ?_
  refine ⟨?_, hk3.below hB2 (by omega) (fun j hj => by omega)⟩
  rw [K1.out, HCv.out, K3.out]
  rfl
end Go.Proofs.Ytbioajgmceodhaa
