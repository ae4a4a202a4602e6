/-
  head.Encode, head.Size.
-/
import Derived.Test.YtehdilgnlhhjdaaHw
import Derived.Test.YtehdilgnlhhjdaaMq12
import Derived.Test.YtehdilgnlhhjdaaMq3
import Derived.IntWalk
namespace Go.Proofs.Ytehdilgnlhhjdaa
section
set_option linter.unusedVariables false
set_option linter.unusedSimpArgs false
open Go.RowKit
theorem HFits.len {w : World} {P : Nat → Prop} {m : HN} {d : Sl} {ds : List Int} (h : HFits w P m d ds) : d.n = ds.length := h.dt.rd.1.1.symm
theorem hright_parts (m : HN) (n : Nat) (h : hrightB m n = true) : 0 ≤ m.s ∧ m.s ≤ 2 ∧ 1 ≤ m.w ∧ m.w ≤ 4 ∧ n ≤ 32 ∧ (m.s = 0 ∨ n = 0) ∧ (m.s = 2 ∨ m.ph = false) ∧ (m.s = 2 → m.f = .zero) := by
  unfold hrightB at h
  exact of_decide_eq_true h
set_option maxRecDepth 100000 in
set_option maxHeartbeats 1000000 in
theorem henc_no (P : Nat → Prop) (m : HN) (d : Sl) (tok : List Int) (n : Int) (w : World) (hf : HFits w P m d tok) (h : hrightB m tok.length = false ∨ n < m.w ∨ 16383 < n) :
    Calls Try.prog 32 #[hdV m d, .int .i64 n] w (FrPost (.tuple #[.slice none 0 0, .int .i64 1]) w) := by
  have hln := hf.len
  have hB0 : Below w.heap.size w (w.alloc (.cells (hdL m d).toArray 30)) := (Below.refl _ _).alloc (Nat.le_refl _) _
  have hA0 : At (w.alloc (.cells (hdL m d).toArray 30)) w.heap.size 30 (hdL m d) := At.new w _ _
  have hrt := fun W (h : HFits W P m d tok) => hright_any P m d tok W h
  have hF0 := hf.below hB0
  have hg : w.heap.size < (w.alloc (.cells (hdL m d).toArray 30)).heap.size := hA0.lt
  rw [hln] at hrt
  clear hln
  obtain ⟨L, hL⟩ : ∃ L, hdL m d = L := ⟨_, rfl⟩
  have hLl : L.length = 20 := by rw [← hL]; rfl
  have hfv : hdV m d = .agg L.toArray := by rw [← hL]; rfl
  have hl0 : L[0]? = some (.int .i64 m.s) := by rw [← hL]; rfl
  have hl4 : L[18]? = some (.int .i64 m.w) := by rw [← hL]; rfl
  rw [hL] at hA0 hB0 hF0 hg
  rw [hfv] at hrt ⊢
  obtain ⟨wd, hwd⟩ : ∃ x, m.w = x := ⟨_, rfl⟩
  rw [hwd] at h hl4
  obtain ⟨rb, hrb⟩ : ∃ x, hrightB m tok.length = x := ⟨_, rfl⟩
  rw [hrb] at h hrt
  have e4 := fun W (hA : At W w.heap.size 30 L) => (hA.cell 18).trans hl4
  have HLl := Lib.hid hLl
  have HRT := Lib.hid hrt
  have E4 := Lib.hid e4
  clear hL hfv hl0 hl4 hLl hrt e4 hrb hwd
  cases rb with
  | false =>
    clear h
    go_enter Try.func32, Try.ntmps32
    go_wp2_with (first | ((with_reducible refine at_ldh ?_); refine ld_hd _ _ (by rfl) hA0 HLl.out ?_) | fail)
    refine (HRT.out _ hF0).mono ?_
    rintro e w1 ⟨rfl, hb1⟩
    go_wp2_with fail
    go_ret2
    exact ⟨rfl, hB0.trans (hb1.mono (by omega))⟩
  | true =>
    have h2 : n < wd ∨ (wd ≤ n ∧ 16383 < n) := by
      rcases h with h | h | h
      · cases h
      · exact .inl h
      · by_cases h3 : n < wd
        · exact .inl h3
        · exact .inr ⟨by omega, h⟩
    clear h
    rcases h2 with h | ⟨h, h'⟩
    all_goals
      go_enter Try.func32, Try.ntmps32
      go_wp2_with (first | ((with_reducible refine at_ldh ?_); refine ld_hd _ _ (by rfl) hA0 HLl.out ?_) | fail)
      refine (HRT.out _ hF0).mono ?_
      rintro e w1 ⟨rfl, hb1⟩
      have c4 := E4.out _ (hA0.below hb1 hg)
      go_wp2_with fail
      go_ret2
      exact ⟨rfl, hB0.trans (hb1.mono (by omega))⟩
def HencPost (w : World) (bs : List Int) (e : Ending) (w' : World) : Prop := ∃ v, e = .returned (.tuple #[v, .int .i64 0]) ∧ Own w' w.heap.size 5 v bs ∧ Below w.heap.size w w'

set_option maxRecDepth 100000 in
set_option maxHeartbeats 1000000 in
theorem henc_short (P : Nat → Prop) (m : HN) (d : Sl) (tok : List Int) (n : Int) (w : World) (hf : HFits w P m d tok) (hr : hrightB m tok.length = true) (hn0 : m.w ≤ n) (hn1 : n ≤ 16383) (hs : m.s = 2) :
    Calls Try.prog 32 #[hdV m d, .int .i64 n] w (HencPost w (hencS m tok n)) := by
  obtain ⟨r1, r2, r3, r4, r5, r6, r7, r8⟩ := hright_parts _ _ hr
  have hln := hf.len
  have hB0 : Below w.heap.size w (w.alloc (.cells (hdL m d).toArray 30)) := (Below.refl _ _).alloc (Nat.le_refl _) _
  have hA0 : At (w.alloc (.cells (hdL m d).toArray 30)) w.heap.size 30 (hdL m d) := At.new w _ _
  have hrt := fun W (h : HFits W P m d tok) => hright_any P m d tok W h
  have hF0 := hf.below hB0
  have hg : w.heap.size < (w.alloc (.cells (hdL m d).toArray 30)).heap.size := hA0.lt
  rw [hln] at hrt
  clear hln
  have hwb := hf.wf.tb
  have hlen : (hencS m tok n).length ≤ 1000 := by
    rw [show hencS m tok n = hfirst m :: m.t.l by unfold hencS; rw [if_pos hs]]; show (m.t.l.length + 1) ≤ 1000; have : m.t.l.length = 8 := rfl; omega
  have hwr := fun (base p : Nat) (T : TypeId) (v : Value) (W : World) a1 a2 a3 => wshort_any base p T v [] m d W a1 a2 hs r3 r4 hwb a3
  rw [show ([] ++ (hfirst m :: m.t.l) : List Int) = hencS m tok n by unfold hencS; rw [if_pos hs]; rfl] at hwr
  obtain ⟨L, hL⟩ : ∃ L, hdL m d = L := ⟨_, rfl⟩
  have hLl : L.length = 20 := by rw [← hL]; rfl
  have hfv : hdV m d = .agg L.toArray := by rw [← hL]; rfl
  have hl0 : L[0]? = some (.int .i64 m.s) := by rw [← hL]; rfl
  have hl4 : L[18]? = some (.int .i64 m.w) := by rw [← hL]; rfl
  rw [hL] at hA0 hB0 hF0 hg
  rw [hfv] at hrt hwr ⊢
  obtain ⟨wd, hwd⟩ : ∃ x, m.w = x := ⟨_, rfl⟩
  rw [hwd] at hl4 hn0 r3 r4
  obtain ⟨bs, hbs⟩ : ∃ x, hencS m tok n = x := ⟨_, rfl⟩
  rw [hbs] at hlen hwr ⊢
  rw [hr] at hrt
  have e4 := fun W (hA : At W w.heap.size 30 L) => (hA.cell 18).trans hl4
  have e0 := fun W (hA : At W w.heap.size 30 L) => (hA.cell 0).trans hl0
  have HLl := Lib.hid hLl
  have HRT := Lib.hid hrt
  have HWR := Lib.hid hwr
  have E4 := Lib.hid e4
  obtain ⟨sp, hsp⟩ : ∃ x, m.s = x := ⟨_, rfl⟩
  rw [hsp] at e0 hs
  have E0 := Lib.hid e0
  clear hL hfv hl0 hl4 hLl hrt hwr e4 e0 hr hwd hbs hsp hwb r1 r2 r5 r6 r7 r8
  subst hs
  go_enter Try.func32, Try.ntmps32
  go_wp2_with (first | ((with_reducible refine at_ldh ?_); refine ld_hd _ _ (by rfl) hA0 HLl.out ?_) | fail)
  refine (HRT.out _ hF0).mono ?_
  rintro e w1 ⟨rfl, hb1⟩
  have hA1 := hA0.below hb1 hg
  have hF1 := hF0.below hb1
  have hB1 := hB0.trans (hb1.mono (by omega))
  have hs1 := hb1.size
  have c4 := E4.out _ hA1
  clear hb1
  go_wp2_with fail
  refine (new_any w1).mono ?_
  rintro e w2 ⟨rfl, hW2, hs2, hb2⟩
  have hA2 := hA1.below hb2 hA1.lt
  have hF2 := (hF1.mono (P' := fun b => ¬ WS w1.heap.size (.slice none 0 0) b) (fun b hb _ hs => by rcases hs with hs | hs; omega; simp [Value.ownBlock] at hs)).below hb2
  have hB2 := hB1.trans (hb2.mono (by omega))
  have c0 := E0.out _ hA2
  clear hb2
  go_wp2_with (first | ((with_reducible refine at_ldh ?_); refine ld_hd _ _ (by rfl) hA2 HLl.out ?_) | fail)
  refine (HWR.out w1.heap.size w1.heap.size _ _ _ hW2 (by simp) (by omega)).mono ?_
  rintro e w3 ⟨v3, rfl, hW3, _, hk3⟩
  have hB3 := hk3.below hB2 (by omega) (fun j hj => by rcases hj with hj | hj; omega; simp [Value.ownBlock] at hj)
  go_wp2_with fail
  refine (wdone_any _ _ _ _ _ _ hW3 (by omega)).mono ?_
  rintro e w4 ⟨v4, rfl, hown, hb4⟩
  go_wp2_with fail
  go_ret2
  exact ⟨v4, rfl, hown.base_ hB3.size, hB3.trans (hb4.mono hB3.size)⟩
set_option maxRecDepth 100000 in
set_option maxHeartbeats 1000000 in
theorem henc_long_ (P : Nat → Prop) (m : HN) (d : Sl) (tok : List Int) (n : Int) (w : World) (hf : HFits w P m d tok) (hr : hrightB m tok.length = true) (hn0 : m.w ≤ n) (hn1 : n ≤ 16383) (hs : m.s = 0 ∨ m.s = 1) :
    Calls Try.prog 32 #[hdV m d, .int .i64 n] w (HencPost w (hencS m tok n)) := by
  obtain ⟨r1, r2, r3, r4, r5, r6, r7, r8⟩ := hright_parts _ _ hr
  have hln := hf.len
  have hB0 : Below w.heap.size w (w.alloc (.cells (hdL m d).toArray 30)) := (Below.refl _ _).alloc (Nat.le_refl _) _
  have hA0 : At (w.alloc (.cells (hdL m d).toArray 30)) w.heap.size 30 (hdL m d) := At.new w _ _
  have hrt := fun W (h : HFits W P m d tok) => hright_any P m d tok W h
  have hF0 := hf.below hB0
  have hg : w.heap.size < (w.alloc (.cells (hdL m d).toArray 30)).heap.size := hA0.lt
  rw [hln] at hrt
  clear hln
  have hwb := hf.wf.tb
  have hlen : (hencS m tok n).length ≤ 1000 := by
    have := henc_long m tok n (by omega) []
    have z := congrArg List.length this
    have hk := textB_le tok
    have y1 : (textB m.t.l).length = 9 := by rw [textB8]; rfl
    have y2 : (textB m.f.l).length = 9 := by rw [textB8]; rfl
    have y3 : (if m.s = 0 then textB tok else []).length ≤ 40 := by split; omega; simp
    have y4 : (twoB (16384 + n)).length = 2 := rfl
    simp only [List.nil_append, List.length_append, List.length_cons, List.length_nil, twoB_0, twoB_1, y1, y2, y4] at z
    omega
  have hwr := fun (base p : Nat) (T : TypeId) (v : Value) (W : World) a1 a2 a3 a4 => wlong_any base p T v [] tok m d n W a1 a2 hs r3 r4 (by omega) hn1 a3 r5 a4
  rw [List.nil_append] at hwr
  obtain ⟨L, hL⟩ : ∃ L, hdL m d = L := ⟨_, rfl⟩
  have hLl : L.length = 20 := by rw [← hL]; rfl
  have hfv : hdV m d = .agg L.toArray := by rw [← hL]; rfl
  have hl0 : L[0]? = some (.int .i64 m.s) := by rw [← hL]; rfl
  have hl4 : L[18]? = some (.int .i64 m.w) := by rw [← hL]; rfl
  rw [hL] at hA0 hB0 hF0 hg
  rw [hfv] at hrt hwr ⊢
  obtain ⟨wd, hwd⟩ : ∃ x, m.w = x := ⟨_, rfl⟩
  rw [hwd] at hl4 hn0 r3 r4
  obtain ⟨bs, hbs⟩ : ∃ x, hencS m tok n = x := ⟨_, rfl⟩
  rw [hbs] at hlen hwr ⊢
  rw [hr] at hrt
  have e4 := fun W (hA : At W w.heap.size 30 L) => (hA.cell 18).trans hl4
  have e0 := fun W (hA : At W w.heap.size 30 L) => (hA.cell 0).trans hl0
  have HLl := Lib.hid hLl
  have HRT := Lib.hid hrt
  have HWR := Lib.hid hwr
  have E4 := Lib.hid e4
  obtain ⟨sp, hsp⟩ : ∃ x, m.s = x := ⟨_, rfl⟩
  rw [hsp] at e0 hs
  have E0 := Lib.hid e0
  clear hL hfv hl0 hl4 hLl hrt hwr e4 e0 hr hwd hbs hsp hwb r1 r2 r5 r6 r7 r8
  rcases hs with rfl | rfl
  all_goals
    go_enter Try.func32, Try.ntmps32
    go_wp2_with (first | ((with_reducible refine at_ldh ?_); refine ld_hd _ _ (by rfl) hA0 HLl.out ?_) | fail)
    refine (HRT.out _ hF0).mono ?_
    rintro e w1 ⟨rfl, hb1⟩
    have hA1 := hA0.below hb1 hg
    have hF1 := hF0.below hb1
    have hB1 := hB0.trans (hb1.mono (by omega))
    have hs1 := hb1.size
    have c4 := E4.out _ hA1
    clear hb1
    go_wp2_with fail
    refine (new_any w1).mono ?_
    rintro e w2 ⟨rfl, hW2, hs2, hb2⟩
    have hA2 := hA1.below hb2 hA1.lt
    have hF2 := (hF1.mono (P' := fun b => ¬ WS w1.heap.size (.slice none 0 0) b) (fun b hb _ hs => by rcases hs with hs | hs; omega; simp [Value.ownBlock] at hs)).below hb2
    have hB2 := hB1.trans (hb2.mono (by omega))
    have c0 := E0.out _ hA2
    clear hb2
    go_wp2_with (first | ((with_reducible refine at_ldh ?_); refine ld_hd _ _ (by rfl) hA2 HLl.out ?_) | fail)
    refine (HWR.out w1.heap.size w1.heap.size _ _ _ hW2 (by simp) hF2 (by omega)).mono ?_
    rintro e w3 ⟨v3, rfl, hW3, _, hk3⟩
    have hB3 := hk3.below hB2 (by omega) (fun j hj => by rcases hj with hj | hj; omega; simp [Value.ownBlock] at hj)
    go_wp2_with fail
    refine (wdone_any _ _ _ _ _ _ hW3 (by omega)).mono ?_
    rintro e w4 ⟨v4, rfl, hown, hb4⟩
    go_wp2_with fail
    go_ret2
    exact ⟨v4, rfl, hown.base_ hB3.size, hB3.trans (hb4.mono hB3.size)⟩
theorem henc_yes (P : Nat → Prop) (m : HN) (d : Sl) (tok : List Int) (n : Int) (w : World) (hf : HFits w P m d tok) (hr : hrightB m tok.length = true) (hn0 : m.w ≤ n) (hn1 : n ≤ 16383) :
    Calls Try.prog 32 #[hdV m d, .int .i64 n] w (HencPost w (hencS m tok n)) := by
  obtain ⟨r1, r2, _⟩ := hright_parts _ _ hr
  by_cases hs : m.s = 2
  · exact henc_short P m d tok n w hf hr hn0 hn1 hs
  · exact henc_long_ P m d tok n w hf hr hn0 hn1 (by omega)
end
section
set_option linter.unusedVariables false
set_option linter.unusedSimpArgs false
open Go.RowKit
section
variable {P : Program} {ops : Array Oper} {rest : List Oper} {a : Act} {w : World} {Q : Exit → Act → World → Prop} {dst : Option Tmp} {x y : Operand} {ty t : TypeId} {pos : String} {after : Array Edge} {g : Option (Nat × Bool)}
end
theorem parse_nil : parseS [] = none := by
  unfold parseS; simp only; rw [if_pos (by decide)]
end
section
set_option linter.unusedVariables false
set_option linter.unusedSimpArgs false
open Go.RowKit
def RPPost (bs : List Int) (w : World) (e : Ending) (w' : World) : Prop :=
  (match parseS bs with
  | none => e = .returned (.tuple #[hdV HN.zero Sl.nil, .int .i64 0, .int .i64 0, .bool false])
  | some x => ∃ d, e = .returned (.tuple #[hdV x.1 d, .int .i64 x.2.2.1, .int .i64 x.2.2.2, .bool true]) ∧ InD w' (fun b => w.heap.size ≤ b) d x.2.1 ∧ x.1.wf) ∧ Below w.heap.size w w'
theorem RPPost.no {bs : List Int} {w w' : World} (h : parseS bs = none) (hb : Below w.heap.size w w') : RPPost bs w (.returned (.tuple #[hdV HN.zero Sl.nil, .int .i64 0, .int .i64 0, .bool false])) w' := by
  unfold RPPost; rw [h]; exact ⟨rfl, hb⟩
theorem RPPost.yes {bs : List Int} {w w' : World} {m : HN} {tok : List Int} {a b : Int} {d : Sl} (h : parseS bs = some (m, tok, a, b)) (hd : InD w' (fun b => w.heap.size ≤ b) d tok) (hm : m.wf) (hb : Below w.heap.size w w') : RPPost bs w (.returned (.tuple #[hdV m d, .int .i64 a, .int .i64 b, .bool true])) w' := by
  unfold RPPost; rw [h]; exact ⟨⟨d, rfl, hd, hm⟩, hb⟩
end
section
set_option linter.unusedVariables false
set_option linter.unusedSimpArgs false
open Go.RowKit
end
end Go.Proofs.Ytehdilgnlhhjdaa
