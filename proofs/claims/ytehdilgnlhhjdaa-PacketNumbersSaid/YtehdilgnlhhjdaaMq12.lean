/-
  head.Encode, head.Size.
-/
import Derived.Test.YtehdilgnlhhjdaaHw
import Derived.Test.YtehdilgnlhhjdaaMq11
import Derived.Test.YtehdilgnlhhjdaaMq1
import Derived.IntWalk
namespace Go.Proofs.Ytehdilgnlhhjdaa
section
set_option linter.unusedVariables false
set_option linter.unusedSimpArgs false
open Go.RowKit
theorem HFits.len {w : World} {P : Nat → Prop} {m : HN} {d : Sl} {ds : List Int} (h : HFits w P m d ds) : d.n = ds.length := h.dt.rd.1.1.symm
theorem hright_parts (m : HN) (n : Nat) (h : hrightB m n = true) : 0 ≤ m.s ∧ m.s ≤ 2 ∧ 1 ≤ m.w ∧ m.w ≤ 4 ∧ n ≤ 32 ∧ (m.s = 0 ∨ n = 0) ∧ (m.s = 2 ∨ m.ph = false) ∧ (m.s = 2 → m.f = .zero) := by
  unfold hrightB at h
  exact of_decide_eq_true h
set_option maxRecDepth 100000 in
set_option maxHeartbeats 1000000 in
theorem henc_no (P : Nat → Prop) (m : HN) (d : Sl) (tok : List Int) (n : Int) (w : World) (hf : HFits w P m d tok) (h : hrightB m tok.length = false ∨ n < m.w ∨ 16383 < n) :
    Calls Try.prog 32 #[hdV m d, .int .i64 n] w (FrPost (.tuple #[.slice none 0 0, .int .i64 1]) w) := by
  have hln := hf.len
  have hB0 : Below w.heap.size w (w.alloc (.cells (hdL m d).toArray 30)) := (Below.refl _ _).alloc (Nat.le_refl _) _
  have hA0 : At (w.alloc (.cells (hdL m d).toArray 30)) w.heap.size 30 (hdL m d) := At.new w _ _
  have hrt := fun W (h : HFits W P m d tok) => hright_any P m d tok W h
  have hF0 := hf.below hB0
  have hg : w.heap.size < (w.alloc (.cells (hdL m d).toArray 30)).heap.size := hA0.lt
  rw [hln] at hrt
  clear hln
  obtain ⟨L, hL⟩ : ∃ L, hdL m d = L := ⟨_, rfl⟩
  have hLl : L.length = 20 := by rw [← hL]; rfl
  have hfv : hdV m d = .agg L.toArray := by rw [← hL]; rfl
  have hl0 : L[0]? = some (.int .i64 m.s) := by rw [← hL]; rfl
  have hl4 : L[18]? = some (.int .i64 m.w) := by rw [← hL]; rfl
  rw [hL] at hA0 hB0 hF0 hg
  rw [hfv] at hrt ⊢
  obtain ⟨wd, hwd⟩ : ∃ x, m.w = x := ⟨_, rfl⟩
  rw [hwd] at h hl4
  obtain ⟨rb, hrb⟩ : ∃ x, hrightB m tok.length = x := ⟨_, rfl⟩
  rw [hrb] at h hrt
  have e4 := fun W (hA : At W w.heap.size 30 L) => (hA.cell 18).trans hl4
  have HLl := Lib.hid hLl
  have HRT := Lib.hid hrt
  have E4 := Lib.hid e4
  clear hL hfv hl0 hl4 hLl hrt e4 hrb hwd
  cases rb with
  | false =>
    clear h
    go_enter Try.func32, Try.ntmps32
    go_wp2_with (first | ((with_reducible refine at_ldh ?_); refine ld_hd _ _ (by rfl) hA0 HLl.out ?_) | fail)
    refine (HRT.out _ hF0).mono ?_
    rintro e w1 ⟨rfl, hb1⟩
    go_wp2_with fail
    go_ret2
    exact ⟨rfl, hB0.trans (hb1.mono (by omega))⟩
  | true =>
    have h2 : n < wd ∨ (wd ≤ n ∧ 16383 < n) := by
      rcases h with h | h | h
      · cases h
      · exact .inl h
      · by_cases h3 : n < wd
        · exact .inl h3
        · exact .inr ⟨by omega, h⟩
    clear h
    rcases h2 with h | ⟨h, h'⟩
    all_goals
      go_enter Try.func32, Try.ntmps32
      go_wp2_with (first | ((with_reducible refine at_ldh ?_); refine ld_hd _ _ (by rfl) hA0 HLl.out ?_) | fail)
      refine (HRT.out _ hF0).mono ?_
      rintro e w1 ⟨rfl, hb1⟩
      have c4 := E4.out _ (hA0.below hb1 hg)
      go_wp2_with fail
      go_ret2
      exact ⟨rfl, hB0.trans (hb1.mono (by omega))⟩
def HencPost (w : World) (bs : List Int) (e : Ending) (w' : World) : Prop := ∃ v, e = .returned (.tuple #[v, .int .i64 0]) ∧ Own w' w.heap.size 5 v bs ∧ Below w.heap.size w w'

set_option maxRecDepth 100000 in
set_option maxHeartbeats 1000000 in
theorem henc_short (P : Nat → Prop) (m : HN) (d : Sl) (tok : List Int) (n : Int) (w : World) (hf : HFits w P m d tok) (hr : hrightB m tok.length = true) (hn0 : m.w ≤ n) (hn1 : n ≤ 16383) (hs : m.s = 2) :
    Calls Try.prog 32 #[hdV m d, .int .i64 n] w (HencPost w (hencS m tok n)) := by
  obtain ⟨r1, r2, r3, r4, r5, r6, r7, r8⟩ := hright_parts _ _ hr
  have hln := hf.len
  have hB0 : Below w.heap.size w (w.alloc (.cells (hdL m d).toArray 30)) := (Below.refl _ _).alloc (Nat.le_refl _) _
  have hA0 : At (w.alloc (.cells (hdL m d).toArray 30)) w.heap.size 30 (hdL m d) := At.new w _ _
  have hrt := fun W (h : HFits W P m d tok) => hright_any P m d tok W h
  have hF0 := hf.below hB0
  have hg : w.heap.size < (w.alloc (.cells (hdL m d).toArray 30)).heap.size := hA0.lt
  rw [hln] at hrt
  clear hln
  have hwb := hf.wf.tb
  have hlen : (hencS m tok n).length ≤ 1000 := by
    rw [show hencS m tok n = hfirst m :: m.t.l by unfold hencS; rw [if_pos hs]]; show (m.t.l.length + 1) ≤ 1000; have : m.t.l.length = 8 := rfl; omega
  have hwr := fun (base p : Nat) (T : TypeId) (v : Value) (W : World) a1 a2 a3 => wshort_any base p T v [] m d W a1 a2 hs r3 r4 hwb a3
  rw [show ([] ++ (hfirst m :: m.t.l) : List Int) = hencS m tok n by unfold hencS; rw [if_pos hs]; rfl] at hwr
  obtain ⟨L, hL⟩ : ∃ L, hdL m d = L := ⟨_, rfl⟩
  have hLl : L.length = 20 := by rw [← hL]; rfl
  have hfv : hdV m d = .agg L.toArray := by rw [← hL]; rfl
  have hl0 : L[0]? = some (.int .i64 m.s) := by rw [← hL]; rfl
  have hl4 : L[18]? = some (.int .i64 m.w) := by rw [← hL]; rfl
  rw [hL] at hA0 hB0 hF0 hg
  rw [hfv] at hrt hwr ⊢
  obtain ⟨wd, hwd⟩ : ∃ x, m.w = x := ⟨_, rfl⟩
  rw [hwd] at hl4 hn0 r3 r4
  obtain ⟨bs, hbs⟩ : ∃ x, hencS m tok n = x := ⟨_, rfl⟩
  rw [hbs] at hlen hwr ⊢
  rw [hr] at hrt
  have e4 := fun W (hA : At W w.heap.size 30 L) => (hA.cell 18).trans hl4
  have e0 := fun W (hA : At W w.heap.size 30 L) => (hA.cell 0).trans hl0
  have HLl := Lib.hid hLl
  have HRT := Lib.hid hrt
  have HWR := Lib.hid hwr
  have E4 := Lib.hid e4
  obtain ⟨sp, hsp⟩ : ∃ x, m.s = x := ⟨_, rfl⟩
  rw [hsp] at e0 hs
  have E0 := Lib.hid e0
  clear hL hfv hl0 hl4 hLl hrt hwr e4 e0 hr hwd hbs hsp hwb r1 r2 r5 r6 r7 r8
  subst hs
  go_enter Try.func32, Try.ntmps32
  go_wp2_with (first | ((with_reducible refine at_ldh ?_); refine ld_hd _ _ (by rfl) hA0 HLl.out ?_) | fail)
  refine (HRT.out _ hF0).mono ?_
  rintro e w1 ⟨rfl, hb1⟩
  have hA1 := hA0.below hb1 hg
  have hF1 := hF0.below hb1
  have hB1 := hB0.trans (hb1.mono (by omega))
  have hs1 := hb1.size
  have c4 := E4.out _ hA1
  clear hb1
  go_wp2_with fail
  refine (new_any w1).mono ?_
  rintro e w2 ⟨rfl, hW2, hs2, hb2⟩
  have hA2 := hA1.below hb2 hA1.lt
  have hF2 := (hF1.mono (P' := fun b => ¬ WS w1.heap.size (.slice none 0 0) b) (fun b hb _ hs => by rcases hs with hs | hs; omega; simp [Value.ownBlock] at hs)).below hb2
  have hB2 := hB1.trans (hb2.mono (by omega))
  have c0 := E0.out _ hA2
  clear hb2
  go_wp2_with (first | ((with_reducible refine at_ldh ?_); refine ld_hd _ _ (by rfl) hA2 HLl.out ?_) | fail)
  refine (HWR.out w1.heap.size w1.heap.size _ _ _ hW2 (by simp) (by omega)).mono ?_
  rintro e w3 ⟨v3, rfl, hW3, _, hk3⟩
  have hB3 := hk3.below hB2 (by omega) (fun j hj => by rcases hj with hj | hj; omega; simp [Value.ownBlock] at hj)
  go_wp2_with fail
  refine (wdone_any _ _ _ _ _ _ hW3 (by omega)).mono ?_
  rintro e w4 ⟨v4, rfl, hown, hb4⟩
  go_wp2_with fail
  go_ret2
  exact ⟨v4, rfl, hown.base_ hB3.size, hB3.trans (hb4.mono hB3.size)⟩
set_option maxRecDepth 100000 in
set_option maxHeartbeats 1000000 in
theorem henc_long_ (P : Nat → Prop) (m : HN) (d : Sl) (tok : List Int) (n : Int) (w : World) (hf : HFits w P m d tok) (hr : hrightB m tok.length = true) (hn0 : m.w ≤ n) (hn1 : n ≤ 16383) (hs : m.s = 0 ∨ m.s = 1) :
    Calls Try.prog 32 #[hdV m d, .int .i64 n] w (HencPost w (hencS m tok n)) := by
  obtain ⟨r1, r2, r3, r4, r5, r6, r7, r8⟩ := hright_parts _ _ hr
  have hln := hf.len
  have hB0 : Below w.heap.size w (w.alloc (.cells (hdL m d).toArray 30)) := (Below.refl _ _).alloc (Nat.le_refl _) _
  have hA0 : At (w.alloc (.cells (hdL m d).toArray 30)) w.heap.size 30 (hdL m d) := At.new w _ _
  have hrt := fun W (h : HFits W P m d tok) => hright_any P m d tok W h
  have hF0 := hf.below hB0
  have hg : w.heap.size < (w.alloc (.cells (hdL m d).toArray 30)).heap.size := hA0.lt
  rw [hln] at hrt
  clear hln
  have hwb := hf.wf.tb
  have hlen : (hencS m tok n).length ≤ 1000 := by
    have := henc_long m tok n (by omega) []
    have z := congrArg List.length this
    have hk := textB_le tok
    have y1 : (textB m.t.l).length = 9 := by rw [textB8]; rfl
    have y2 : (textB m.f.l).length = 9 := by rw [textB8]; rfl
    have y3 : (if m.s = 0 then textB tok else []).length ≤ 40 := by split; omega; simp
    have y4 : (twoB (16384 + n)).length = 2 := rfl
    simp only [List.nil_append, List.length_append, List.length_cons, List.length_nil, twoB_0, twoB_1, y1, y2, y4] at z
    omega
  have hwr := fun (base p : Nat) (T : TypeId) (v : Value) (W : World) a1 a2 a3 a4 => wlong_any base p T v [] tok m d n W a1 a2 hs r3 r4 (by omega) hn1 a3 r5 a4
  rw [List.nil_append] at hwr
  obtain ⟨L, hL⟩ : ∃ L, hdL m d = L := ⟨_, rfl⟩
  have hLl : L.length = 20 := by rw [← hL]; rfl
  have hfv : hdV m d = .agg L.toArray := by rw [← hL]; rfl
  have hl0 : L[0]? = some (.int .i64 m.s) := by rw [← hL]; rfl
  have hl4 : L[18]? = some (.int .i64 m.w) := by rw [← hL]; rfl
  rw [hL] at hA0 hB0 hF0 hg
  rw [hfv] at hrt hwr ⊢
  obtain ⟨wd, hwd⟩ : ∃ x, m.w = x := ⟨_, rfl⟩
  rw [hwd] at hl4 hn0 r3 r4
  obtain ⟨bs, hbs⟩ : ∃ x, hencS m tok n = x := ⟨_, rfl⟩
  rw [hbs] at hlen hwr ⊢
  rw [hr] at hrt
  have e4 := fun W (hA : At W w.heap.size 30 L) => (hA.cell 18).trans hl4
  have e0 := fun W (hA : At W w.heap.size 30 L) => (hA.cell 0).trans hl0
  have HLl := Lib.hid hLl
  have HRT := Lib.hid hrt
  have HWR := Lib.hid hwr
  have E4 := Lib.hid e4
  obtain ⟨sp, hsp⟩ : ∃ x, m.s = x := ⟨_, rfl⟩
  rw [hsp] at e0 hs
  have E0 := Lib.hid e0
  clear hL hfv hl0 hl4 hLl hrt hwr e4 e0 hr hwd hbs hsp hwb r1 r2 r5 r6 r7 r8
  rcases hs with rfl | rfl
  all_goals
    go_enter Try.func32, Try.ntmps32
    go_wp2_with (first | ((with_reducible refine at_ldh ?_); refine ld_hd _ _ (by rfl) hA0 HLl.out ?_) | fail)
    refine (HRT.out _ hF0).mono ?_
    rintro e w1 ⟨rfl, hb1⟩
    have hA1 := hA0.below hb1 hg
    have hF1 := hF0.below hb1
    have hB1 := hB0.trans (hb1.mono (by omega))
    have hs1 := hb1.size
    have c4 := E4.out _ hA1
    clear hb1
    go_wp2_with fail
    refine (new_any w1).mono ?_
    rintro e w2 ⟨rfl, hW2, hs2, hb2⟩
    have hA2 := hA1.below hb2 hA1.lt
    have hF2 := (hF1.mono (P' := fun b => ¬ WS w1.heap.size (.slice none 0 0) b) (fun b hb _ hs => by rcases hs with hs | hs; omega; simp [Value.ownBlock] at hs)).below hb2
    have hB2 := hB1.trans (hb2.mono (by omega))
    have c0 := E0.out _ hA2
    clear hb2
    go_wp2_with (first | ((with_reducible refine at_ldh ?_); refine ld_hd _ _ (by rfl) hA2 HLl.out ?_) | fail)
    refine (HWR.out w1.heap.size w1.heap.size _ _ _ hW2 (by simp) hF2 (by omega)).mono ?_
    rintro e w3 ⟨v3, rfl, hW3, _, hk3⟩
    have hB3 := hk3.below hB2 (by omega) (fun j hj => by rcases hj with hj | hj; omega; simp [Value.ownBlock] at hj)
    go_wp2_with fail
    refine (wdone_any _ _ _ _ _ _ hW3 (by omega)).mono ?_
    rintro e w4 ⟨v4, rfl, hown, hb4⟩
    go_wp2_with fail
    go_ret2
    exact ⟨v4, rfl, hown.base_ hB3.size, hB3.trans (hb4.mono hB3.size)⟩
theorem henc_yes (P : Nat → Prop) (m : HN) (d : Sl) (tok : List Int) (n : Int) (w : World) (hf : HFits w P m d tok) (hr : hrightB m tok.length = true) (hn0 : m.w ≤ n) (hn1 : n ≤ 16383) :
    Calls Try.prog 32 #[hdV m d, .int .i64 n] w (HencPost w (hencS m tok n)) := by
  obtain ⟨r1, r2, _⟩ := hright_parts _ _ hr
  by_cases hs : m.s = 2
  · exact henc_short P m d tok n w hf hr hn0 hn1 hs
  · exact henc_long_ P m d tok n w hf hr hn0 hn1 (by omega)
end
section
set_option linter.unusedVariables false
set_option linter.unusedSimpArgs false
open Go.RowKit
section
variable {P : Program} {ops : Array Oper} {rest : List Oper} {a : Act} {w : World} {Q : Exit → Act → World → Prop} {dst : Option Tmp} {x y : Operand} {ty t : TypeId} {pos : String} {after : Array Edge} {g : Option (Nat × Bool)}
theorem ld_off_g (p off : Nat) (l : List Value) (d : TypeDesc) (hg : Region.wanted ⟨dst, .load ty x, t, pos, after, g⟩ (yielded ops a.tmps) = true) (hx : a.eval x = .pointer (some ⟨p, off, none⟩)) (hA : w.rangeAt p off l) (hu : P.underlying ty = some d) (hd : d.isRow = true)
    (hi : (P.info? ty).map (·.size) = some l.length) (h : wpList P ops Q rest (a.put dst (.agg l.toArray)) w) : wpList P ops Q (⟨dst, .load ty x, t, pos, after, g⟩ :: rest) a w := by
  refine wpList_step fun K hK => ?_
  rw [if_pos hg]
  exact wp_load_mid _ _ rfl p off hx l _ hA hu hd hi (hK _ _ h)
end
theorem hd_to {w : World} {g : Nat} {m : HN} {d : Sl} (h : At w g 30 (hdL m d)) : w.rangeAt g 1 (m.t.l.map (Value.int .u8)) := by
  intro j v hj
  rw [h.cell]
  have hj8 : j < 8 := (List.getElem?_eq_some_iff.1 hj).1
  have : j = 0 ∨ j = 1 ∨ j = 2 ∨ j = 3 ∨ j = 4 ∨ j = 5 ∨ j = 6 ∨ j = 7 := by omega
  rcases this with rfl | rfl | rfl | rfl | rfl | rfl | rfl | rfl <;> exact hj
theorem hd_from {w : World} {g : Nat} {m : HN} {d : Sl} (h : At w g 30 (hdL m d)) : w.rangeAt g 9 (m.f.l.map (Value.int .u8)) := by
  intro j v hj
  rw [h.cell]
  have hj8 : j < 8 := (List.getElem?_eq_some_iff.1 hj).1
  have : j = 0 ∨ j = 1 ∨ j = 2 ∨ j = 3 ∨ j = 4 ∨ j = 5 ∨ j = 6 ∨ j = 7 := by omega
  rcases this with rfl | rfl | rfl | rfl | rfl | rfl | rfl | rfl <;> exact hj
theorem run_n8' (W : World) (m m' : N8) : (Op.equalIn 10000 27 (.agg (m.l.map (Value.int .u8)).toArray) (.agg (m'.l.map (Value.int .u8)).toArray)).run Try.prog W = .ok (n8B m m') W := run_n8 W m m'
theorem parse_nil : parseS [] = none := by
  unfold parseS; simp only; rw [if_pos (by decide)]
end
section
set_option linter.unusedVariables false
set_option linter.unusedSimpArgs false
open Go.RowKit
theorem sp_to (s : Int) (f : N8) (wd : Int) (ph : Bool) (d : Sl) (l : List Int) (h : l.length = 8 ∨ l = []) : splice (hdL ⟨s, .zero, f, wd, ph⟩ d) 1 (l.map (Value.int .u8)) = hdL ⟨s, N8.of l, f, wd, ph⟩ d := by
  rcases h with h | h
  · match l, h with
    | [a, b, c, d, e, f, g, i], _ => rfl
  · rw [h]; rfl
theorem sp_from (s : Int) (t : N8) (wd : Int) (ph : Bool) (d : Sl) (l : List Int) (h : l.length = 8 ∨ l = []) : splice (hdL ⟨s, t, .zero, wd, ph⟩ d) 9 (l.map (Value.int .u8)) = hdL ⟨s, t, N8.of l, wd, ph⟩ d := by
  rcases h with h | h
  · match l, h with
    | [a, b, c, d, e, f, g, i], _ => rfl
  · rw [h]; rfl
def RPPost (bs : List Int) (w : World) (e : Ending) (w' : World) : Prop :=
  (match parseS bs with
  | none => e = .returned (.tuple #[hdV HN.zero Sl.nil, .int .i64 0, .int .i64 0, .bool false])
  | some x => ∃ d, e = .returned (.tuple #[hdV x.1 d, .int .i64 x.2.2.1, .int .i64 x.2.2.2, .bool true]) ∧ InD w' (fun b => w.heap.size ≤ b) d x.2.1 ∧ x.1.wf) ∧ Below w.heap.size w w'
theorem RPPost.no {bs : List Int} {w w' : World} (h : parseS bs = none) (hb : Below w.heap.size w w') : RPPost bs w (.returned (.tuple #[hdV HN.zero Sl.nil, .int .i64 0, .int .i64 0, .bool false])) w' := by
  unfold RPPost; rw [h]; exact ⟨rfl, hb⟩
theorem RPPost.yes {bs : List Int} {w w' : World} {m : HN} {tok : List Int} {a b : Int} {d : Sl} (h : parseS bs = some (m, tok, a, b)) (hd : InD w' (fun b => w.heap.size ≤ b) d tok) (hm : m.wf) (hb : Below w.heap.size w w') : RPPost bs w (.returned (.tuple #[hdV m d, .int .i64 a, .int .i64 b, .bool true])) w' := by
  unfold RPPost; rw [h]; exact ⟨⟨d, rfl, hd, hm⟩, hb⟩
theorem notbad (bs : List Int) (h : ¬ byteR (bs, false) / 64 % 2 = 0) : (takeN (bs, false) 1).2 = false := by
  unfold byteR takeR at h
  unfold takeN
  split
  · rfl
  · next g => rw [if_neg g] at h; exact absurd (by decide) h
set_option maxRecDepth 100000 in
set_option maxHeartbeats 8000000 in
theorem rparse_no (A : Option Addr) (n c : Nat) (bs : List Int) (w : World) (hr : Rd w w.heap.size A n bs) (hn : n ≤ 1000000) (hnc : n ≤ c) (hcm : c ≤ maxLen) (hA : A = none → c = 0) (hx : byteR (bs, false) / 64 % 2 = 0) :
    Calls Try.prog 28 #[.slice A n c] w (RPPost bs w) := by
  have hlen := hr.1
  have hby := hr.2.1
  have hbx := byteR_bd (bs, false) hby
  have hB1 : Below w.heap.size w ((w.alloc (.cells (hdL HN.zero Sl.nil).toArray 30)).alloc (.cells ([.slice A n c, .bool false] : List Value).toArray 96)) := ((Below.refl _ _).alloc (Nat.le_refl _) _).alloc (by simp) _
  have hA1 : At ((w.alloc (.cells (hdL HN.zero Sl.nil).toArray 30)).alloc (.cells ([.slice A n c, .bool false] : List Value).toArray 96)) w.heap.size 30 (hdL HN.zero Sl.nil) := (At.new w _ _).alloc _
  have hP1 : At ((w.alloc (.cells (hdL HN.zero Sl.nil).toArray 30)).alloc (.cells ([.slice A n c, .bool false] : List Value).toArray 96)) (w.heap.size + 1) 96 [.slice A n c, .bool false] := At.new_ _ _ _ (by simp)
  have hrp : RdP w (fun b => b < w.heap.size) A n bs := ⟨hr, fun b off hn' e => by obtain ⟨b', off', e', hb', _⟩ := hr.2.2 hn'; rw [e] at e'; injection e' with e'; injection e' with e1 e2; omega⟩
  have hr1 : Rdr ((w.alloc (.cells (hdL HN.zero Sl.nil).toArray 30)).alloc (.cells ([.slice A n c, .bool false] : List Value).toArray 96)) (w.heap.size + 1) 96 (fun b => b < w.heap.size) (bs, false) :=
    ⟨A, n, c, hP1, hnc, hcm, hA, hrp.kept (Kept.of_below hB1 (fun _ => False)) (fun _ _ h => h), fun h => by cases h⟩
  obtain ⟨w1, hw1⟩ : ∃ y, (w.alloc (.cells (hdL HN.zero Sl.nil).toArray 30)).alloc (.cells ([.slice A n c, .bool false] : List Value).toArray 96) = y := ⟨_, rfl⟩
  rw [hw1] at hB1 hA1 hr1
  have hp1 : w.heap.size + 1 < w1.heap.size := by rw [← hw1]; simp
  have hPP : ∀ b, b < w.heap.size → b ≠ w.heap.size + 1 := fun b hb => by omega
  have hl1 : (takeN (bs, false) 1).1.length ≤ bs.length := takeN_le (bs, false) 1
  clear hP1 hrp hr

  have hpn : parseS bs = none := by unfold parseS; simp only; rw [if_pos hx]
  have HPN := Lib.hid hpn
  clear hpn
  obtain ⟨x, hxx⟩ : ∃ x, byteR (bs, false) = x := ⟨_, rfl⟩
  obtain ⟨s1, hs1⟩ : ∃ s, takeN (bs, false) 1 = s := ⟨_, rfl⟩
  rw [hxx] at hbx hx
  rw [hs1] at hl1
  have HX := Lib.hid hxx
  have HS1 := Lib.hid hs1
  clear hxx hs1
  have f1 : bits BinOp.and IntKind.u8 x 64 = 0 := by rw [b_and64 x hbx.1 hbx.2, hx]; rfl
  obtain ⟨bd, hbd⟩ : ∃ b, s1.2 = b := ⟨_, rfl⟩
  go_enter Try.func28, Try.ntmps28
  go_wp2_with fail
  change (fun y => Calls Try.prog 51 #[.pointer (some ⟨w.heap.size + 1, 0, none⟩)] y _) ((w.alloc (.cells (hdL HN.zero Sl.nil).toArray 30)).alloc (.cells ([.slice A n c, .bool false] : List Value).toArray 96))
  rw [hw1]
  clear hw1
  refine (rbyte_any (w.heap.size + 1) _ _ (bs, false) w1 hr1 hPP (by simp only; omega)).mono ?_
  rintro e w2 ⟨rfl, hr2, hk2⟩
  rw [HX.out]
  rw [HS1.out] at hr2
  have hA2 := hA1.kept hk2 (by omega)
  have hB2 := hk2.below hB1 (by omega) (fun j hj => by omega)
  have hs2 := hk2.size
  clear hk2 hA1 hB1 hr1
  have hA3 := hA2.alloc (.cells (hdL ⟨2, .zero, .zero, 1, false⟩ Sl.nil).toArray 30)
  have hG3 := At.new w2 30 (hdL ⟨2, .zero, .zero, 1, false⟩ Sl.nil)
  have hB3 := hB2.alloc (by omega) (.cells (hdL ⟨2, .zero, .zero, 1, false⟩ Sl.nil).toArray 30)
  have hr3 := hr2.kept ((Kept.refl (fun _ => False) w2).alloc (.cells (hdL ⟨2, .zero, .zero, 1, false⟩ Sl.nil).toArray 30)) (fun h => h) (fun _ _ h => h)
  obtain ⟨g8, hg8⟩ : ∃ g, w2.heap.size = g := ⟨_, rfl⟩
  obtain ⟨w3, hw3⟩ : ∃ y, w2.alloc (.cells (hdL ⟨2, .zero, .zero, 1, false⟩ Sl.nil).toArray 30) = y := ⟨_, rfl⟩
  rw [hw3] at hA3 hG3 hB3 hr3
  rw [hg8] at hG3
  have hg8p : w.heap.size + 1 < g8 := by omega
  have hz3 := hG3.lt
  clear hA2 hB2 hr2
  obtain ⟨_, _, _, _, _, _, _, rb3⟩ := hr3.cells_
  rw [hbd] at rb3
  cases bd
  all_goals
    go_wp2_with (first | ((with_reducible refine at_sth (x := .tmp 8) ?_); refine wpList_store_top w2 30 (hdL HN.zero Sl.nil) (hdL ⟨2, .zero, .zero, 1, false⟩ Sl.nil) (by rfl) _ (by rfl) hg8.symm (by rfl) (by rfl) hd_info (by rfl) ?_; rw [hw3]; clear hw3 hg8) | ((with_reducible refine at_sth (x := .tmp 2) ?_); refine st_hd _ _ (hdL HN.zero Sl.nil) (by rfl) (by rfl) hA3 (by rfl) (by rfl) (by rfl) ?_; intro w9 hA9 hk9) | fail)
    refine bodyPost_ret (results_cell_tmp3 2 3 4 5 30 (by rfl) _ 30 _ _ _ _ _ (by rfl) (by rfl) (by rfl) (by rfl) hA9 Try.underlying30 rfl hd_info) rfl ?_
    exact RPPost.no HPN.out (hk9.below hB3 (by omega) (fun j hj => by omega))
set_option maxRecDepth 100000 in
set_option maxHeartbeats 8000000 in
theorem rparse_short (A : Option Addr) (n c : Nat) (bs : List Int) (w : World) (hr : Rd w w.heap.size A n bs) (hn : n ≤ 1000000) (hnc : n ≤ c) (hcm : c ≤ maxLen) (hA : A = none → c = 0) (hx : ¬ byteR (bs, false) / 64 % 2 = 0) (hy : byteR (bs, false) / 128 = 0) :
    Calls Try.prog 28 #[.slice A n c] w (RPPost bs w) := by
  have hlen := hr.1
  have hby := hr.2.1
  have hbx := byteR_bd (bs, false) hby
  have hB1 : Below w.heap.size w ((w.alloc (.cells (hdL HN.zero Sl.nil).toArray 30)).alloc (.cells ([.slice A n c, .bool false] : List Value).toArray 96)) := ((Below.refl _ _).alloc (Nat.le_refl _) _).alloc (by simp) _
  have hA1 : At ((w.alloc (.cells (hdL HN.zero Sl.nil).toArray 30)).alloc (.cells ([.slice A n c, .bool false] : List Value).toArray 96)) w.heap.size 30 (hdL HN.zero Sl.nil) := (At.new w _ _).alloc _
  have hP1 : At ((w.alloc (.cells (hdL HN.zero Sl.nil).toArray 30)).alloc (.cells ([.slice A n c, .bool false] : List Value).toArray 96)) (w.heap.size + 1) 96 [.slice A n c, .bool false] := At.new_ _ _ _ (by simp)
  have hrp : RdP w (fun b => b < w.heap.size) A n bs := ⟨hr, fun b off hn' e => by obtain ⟨b', off', e', hb', _⟩ := hr.2.2 hn'; rw [e] at e'; injection e' with e'; injection e' with e1 e2; omega⟩
  have hr1 : Rdr ((w.alloc (.cells (hdL HN.zero Sl.nil).toArray 30)).alloc (.cells ([.slice A n c, .bool false] : List Value).toArray 96)) (w.heap.size + 1) 96 (fun b => b < w.heap.size) (bs, false) :=
    ⟨A, n, c, hP1, hnc, hcm, hA, hrp.kept (Kept.of_below hB1 (fun _ => False)) (fun _ _ h => h), fun h => by cases h⟩
  obtain ⟨w1, hw1⟩ : ∃ y, (w.alloc (.cells (hdL HN.zero Sl.nil).toArray 30)).alloc (.cells ([.slice A n c, .bool false] : List Value).toArray 96) = y := ⟨_, rfl⟩
  rw [hw1] at hB1 hA1 hr1
  have hp1 : w.heap.size + 1 < w1.heap.size := by rw [← hw1]; simp
  have hPP : ∀ b, b < w.heap.size → b ≠ w.heap.size + 1 := fun b hb => by omega
  have hl1 : (takeN (bs, false) 1).1.length ≤ bs.length := takeN_le (bs, false) 1
  clear hP1 hrp hr

  have hlk := link_short bs hx hy _ rfl
  have hnb := notbad bs hx
  have hb8 := n8_byt _ (takeR_byt (takeN (bs, false) 1) 8 (takeN_byt _ _ hby))
  unfold LinkS at hlk
  obtain ⟨x, hxx⟩ : ∃ x, byteR (bs, false) = x := ⟨_, rfl⟩
  obtain ⟨s1, hs1⟩ : ∃ s, takeN (bs, false) 1 = s := ⟨_, rfl⟩
  rw [hxx] at hbx hx hy
  rw [hs1] at hl1 hlk hb8 hnb
  have HX := Lib.hid hxx
  have HS1 := Lib.hid hs1
  clear hxx hs1
  have f1 : bits BinOp.and IntKind.u8 x 64 = 64 := by rw [b_and64 x hbx.1 hbx.2]; omega
  have f2 : bits BinOp.and IntKind.u8 x 128 = 0 := by rw [b_and128 x hbx.1 hbx.2, hy]; rfl
  have HLK := Lib.hid hlk
  have HB8 := Lib.hid hb8
  clear hlk hb8
  go_enter Try.func28, Try.ntmps28
  go_wp2_with fail
  change (fun y => Calls Try.prog 51 #[.pointer (some ⟨w.heap.size + 1, 0, none⟩)] y _) ((w.alloc (.cells (hdL HN.zero Sl.nil).toArray 30)).alloc (.cells ([.slice A n c, .bool false] : List Value).toArray 96))
  rw [hw1]
  clear hw1
  refine (rbyte_any (w.heap.size + 1) _ _ (bs, false) w1 hr1 hPP (by simp only; omega)).mono ?_
  rintro e w2 ⟨rfl, hr2, hk2⟩
  rw [HX.out]
  rw [HS1.out] at hr2
  have hA2 := hA1.kept hk2 (by omega)
  have hB2 := hk2.below hB1 (by omega) (fun j hj => by omega)
  have hs2 := hk2.size
  clear hk2 hA1 hB1 hr1
  have hA3 := hA2.alloc (.cells (hdL ⟨2, .zero, .zero, 1, false⟩ Sl.nil).toArray 30)
  have hG3 := At.new w2 30 (hdL ⟨2, .zero, .zero, 1, false⟩ Sl.nil)
  have hB3 := hB2.alloc (by omega) (.cells (hdL ⟨2, .zero, .zero, 1, false⟩ Sl.nil).toArray 30)
  have hr3 := hr2.kept ((Kept.refl (fun _ => False) w2).alloc (.cells (hdL ⟨2, .zero, .zero, 1, false⟩ Sl.nil).toArray 30)) (fun h => h) (fun _ _ h => h)
  obtain ⟨g8, hg8⟩ : ∃ g, w2.heap.size = g := ⟨_, rfl⟩
  obtain ⟨w3, hw3⟩ : ∃ y, w2.alloc (.cells (hdL ⟨2, .zero, .zero, 1, false⟩ Sl.nil).toArray 30) = y := ⟨_, rfl⟩
  rw [hw3] at hA3 hG3 hB3 hr3
  rw [hg8] at hG3
  have hg8p : w.heap.size + 1 < g8 := by omega
  have hz3 := hG3.lt
  clear hA2 hB2 hr2
  obtain ⟨_, _, _, _, _, _, _, rb3⟩ := hr3.cells_
  rw [hnb] at rb3
  go_wp2_with (first | ((with_reducible refine at_sth (x := .tmp 8) ?_); refine wpList_store_top w2 30 (hdL HN.zero Sl.nil) (hdL ⟨2, .zero, .zero, 1, false⟩ Sl.nil) (by rfl) _ (by rfl) hg8.symm (by rfl) (by rfl) hd_info (by rfl) ?_; rw [hw3]; clear hw3 hg8) | fail)
  have hAR := hA3
  have hBR := hB3
  obtain ⟨N, hN⟩ : ∃ N, (takeR s1 8).length = N := ⟨_, rfl⟩
  have hN8 : N ≤ 8 := by rcases takeR8 s1 with h | h; omega; rw [h] at hN; simp at hN; omega
  have HN_ := Lib.hid hN
  clear hN
  have hrD : Rdr w3.drew _ _ _ _ := hr3.drewN 1
  have hGD := hG3.drew
  have hAD := hAR.drew
  have hBD : Below w.heap.size w w3.drew := belowN hBR 1
  have hzD := hGD.lt
  refine wp_region_held_drew (S := (fun _ => True)) (by kernel_rfl) (trivial) (fun hHeld => ?_)
  refine tk_dst (i := 0) (dst := some 32) rfl rfl (by kernel_rfl) (by kernel_rfl) (by kernel_rfl) (fun _ _ _ h => h) (v := ?_) (Or.inl ⟨by rfl, ?_⟩) (by assumption) ?_
  rotate_left
  · intro w hSw; (try dsimp only at hSw); go_simp; first | done | (with_reducible rfl)
  simp only [Act.put, List.setIfInBounds_toArray, List.set_cons_zero, List.set_cons_succ]
  refine tk_dst (i := 1) (dst := some 33) rfl rfl (by kernel_rfl) (by kernel_rfl) (by kernel_rfl) (fun _ _ _ h => h) (v := ?_) (Or.inl ⟨by rfl, ?_⟩) (by assumption) ?_
  rotate_left
  · intro w hSw; (try dsimp only at hSw); go_simp; first | done | (with_reducible rfl)
  simp only [Act.put, List.setIfInBounds_toArray, List.set_cons_zero, List.set_cons_succ]
  refine tk_dst (i := 2) (dst := some 34) rfl rfl (by kernel_rfl) (by kernel_rfl) (by kernel_rfl) (fun _ _ _ h => h) (v := ?_) (Or.inl ⟨by rfl, ?_⟩) (by assumption) ?_
  rotate_left
  · intro w hSw; (try dsimp only at hSw); go_simp; first | done | (with_reducible rfl)
  simp only [Act.put, List.setIfInBounds_toArray, List.set_cons_zero, List.set_cons_succ]
  refine wpAnyH_ready (rs := [3]) (by kernel_rfl) (by simp) ?_
  refine AllReadyH.cons rfl (fun K hK => ?_) AllReadyH.nil
  go_simp
  go_wp2_with ((go_at_call 52; refine (rraw_any (w.heap.size + 1) _ _ s1 8 _ hrD hPP (by omega)).mono ?_; rintro e wR ⟨vR, rfl, hownR, hrR, hkR⟩; obtain ⟨aR, cR, rfl, gR1, gR2, gR3⟩ := hownR.open_n N HN_.out))
  refine hK.out _ _ (trivial) (fun hHeld => ?_)
  clear hK K
  have hGR := hGD.kept hkR (by omega)
  have hAR2 := hAD.kept hkR (by omega)
  have hBR2 := hkR.below hBD (by omega) (fun j hj => by omega)
  have hsR := hkR.size
  refine wpAnyH_ready (rs := [4]) (by kernel_rfl) (by simp) ?_
  refine AllReadyH.cons rfl (fun K hK => ?_) AllReadyH.nil
  refine step_copy_splice rfl (.tmp 33) (.tmp 35) 28 28 rfl 5 Try.underlying28 (by kernel_rfl) (some ⟨g8, 1, none⟩) aR 8 8 N cR rfl rfl g8 1 (hdL ⟨2, .zero, .zero, 1, false⟩ Sl.nil) 30 hGR ((takeR s1 8).map (Value.int .u8))
    (by rw [List.length_map, HN_.out]; exact (Nat.min_eq_left hN8).symm) (fun hp => ⟨rfl, gR3.cells (by rw [List.length_map, HN_.out] at hp; exact hp)⟩) (by rw [List.length_map, HN_.out, hdL_len]; omega) (oneCell_u8 _) g8 wR (Below.refl _ _) (Nat.le_refl _) ?_
  intro wS hbS hblS
  rw [sp_to _ _ _ _ _ _ (takeR8 s1)] at hbS
  refine hK.out _ _ trivial (fun hHeld => ?_)
  clear hK K
  refine wpAnyH_done (by kernel_rfl) ?_ _
  have hGS : At wS g8 30 (hdL ⟨2, N8.of (takeR s1 8), .zero, 1, false⟩ Sl.nil) := hbS.out
  have hAS := hAR2.below hblS (by omega)
  have hrS := hrR.kept (Kept.of_belowB hblS) (by omega) (fun b hb hs => by omega)
  have hBS := hBR2.trans (hblS.mono (by omega))
  have hzS := hGS.lt
  clear hrD hGD hAD hBD hzD hownR hrR hkR hGR hAR2 hBR2 hsR hbS hblS hHeld gR1 gR2 gR3 HN_ hN8
  have hl2 := takeN_le s1 8
  have hlens : (takeN s1 8).2 = false → bs.length = 9 + (takeN s1 8).1.length := by
    intro h
    have h1 := HS1.out
    rw [← h1] at h ⊢
    have h2 := take_false _ _ h
    unfold takeN at h h2 ⊢
    split at h2
    · next g =>
      simp only at g
      rw [if_pos g] at h ⊢
      split at h
      · next g2 =>
        rw [if_pos g2]
        simp only [List.length_drop] at g2 ⊢
        omega
      · cases h
    · cases h2
  obtain ⟨rA, rn, rc, r0, rl, rle, rcm, rbad⟩ := hrS.cells_
  obtain ⟨s2, hs2'⟩ : ∃ s, takeN s1 8 = s := ⟨_, rfl⟩
  have hlk := HLK.out
  clear HLK
  rw [hs2'] at hlk hrS hl2 rl rbad hlens
  rw [← rl] at hlk hl2 hlens
  obtain ⟨bd, hbd⟩ : ∃ b, s2.2 = b := ⟨_, rfl⟩
  rw [hbd] at hlk rbad hlens
  have hrcm := rcm
  unfold maxLen at hrcm
  obtain ⟨m, hm⟩ : ∃ m : HN, (⟨2, N8.of (takeR s1 8), .zero, 1, false⟩ : HN) = m := ⟨_, rfl⟩
  have hwf : m.wf := by
    rw [← hm]
    constructor
    · show (-9223372036854775808 : Int) ≤ 2; decide
    · show (2 : Int) ≤ 9223372036854775807; decide
    · show (-9223372036854775808 : Int) ≤ 1; decide
    · show (1 : Int) ≤ 9223372036854775807; decide
    · exact HB8.out
    · exact wf_zero8.fb
  rw [hm] at hlk hGS
  clear hm hbd hs2' HB8 hrS
  have hcmx := hcm
  unfold maxLen at hcmx
  cases bd with
  | true =>
    have HPN : Hid (parseS bs = none) := Lib.hid (by rw [hlk, if_neg (by simp)])
    clear hlk
    go_wp2_with (first | ((with_reducible refine at_sth (x := .tmp 2) ?_); refine st_hd _ _ (hdL HN.zero Sl.nil) (by rfl) (by rfl) hAS (by rfl) (by rfl) (by rfl) ?_; intro w9 hA9 hk9) | fail)
    refine bodyPost_ret (results_cell_tmp3 2 3 4 5 30 (by rfl) _ 30 _ _ _ _ _ (by rfl) (by rfl) (by rfl) (by rfl) hA9 Try.underlying30 rfl hd_info) rfl ?_
    exact RPPost.no HPN.out (hk9.below hBS (by omega) (fun j hj => by omega))
  | false =>
    by_cases h12 : rn < 12
    · have HPN : Hid (parseS bs = none) := Lib.hid (by rw [hlk, if_neg (by intro h; have := h.2.2.1; omega)])
      clear hlk
      go_wp2_with (first | ((with_reducible refine at_sth (x := .tmp 2) ?_); refine st_hd _ _ (hdL HN.zero Sl.nil) (by rfl) (by rfl) hAS (by rfl) (by rfl) (by rfl) ?_; intro w9 hA9 hk9) | fail)
      refine bodyPost_ret (results_cell_tmp3 2 3 4 5 30 (by rfl) _ 30 _ _ _ _ _ (by rfl) (by rfl) (by rfl) (by rfl) hA9 Try.underlying30 rfl hd_info) rfl ?_
      exact RPPost.no HPN.out (hk9.below hBS (by omega) (fun j hj => by omega))
    · have hle9 := hlens rfl
      have HPY : Hid (parseS bs = some (m, [], 9, (n : Int))) := Lib.hid (by
        rw [hlk, if_pos (by refine ⟨?_, ?_, by omega, by omega⟩ <;> first | trivial | rfl)]
        congr 1
        refine Prod.ext rfl (Prod.ext rfl (Prod.ext ?_ ?_)) <;> simp only <;> omega)
      clear hlk hlens
      go_wp2_with (first | ((with_reducible refine at_ldh ?_); refine ld_hd _ _ (by rfl) hGS (by rfl) ?_) | ((with_reducible refine at_sth (x := .tmp 2) ?_); refine st_hd _ _ (hdL m Sl.nil) (by rfl) (by rfl) hAS (by rfl) (by rfl) (by rfl) ?_; intro w9 hA9 hk9) | fail)
      refine bodyPost_ret (results_cell_tmp3 2 3 4 5 30 (by rfl) _ 30 _ _ _ _ _ (by rfl) (by rfl) (by rfl) (by rfl) hA9 Try.underlying30 rfl hd_info) rfl ?_
      exact RPPost.yes (d := Sl.nil) HPY.out (InD.nil_ _ _) hwf (hk9.below hBS (by omega) (fun j hj => by omega))
end
section
set_option linter.unusedVariables false
set_option linter.unusedSimpArgs false
open Go.RowKit
theorem htail_no (s2 : St) (sp len : Int) (ok : Bool) (h : ok = false ∨ byteR s2 ≠ 8 ∨ byteR (lgN s2) ≠ 8 ∨ 32 < (tokR (lgN (lgN s2)) sp).length) : htailS s2 sp len ok = none := by
  unfold htailS
  rw [if_neg]
  rintro ⟨h1, h2, h3, h4, _⟩
  rcases h with h | h | h | h
  · rw [h1] at h; cases h
  · exact h h2
  · exact h h3
  · omega
theorem htail_if (s2 : St) (sp len : Int) (ok : Bool) (h1 : ok = true) (h2 : byteR s2 = 8) (h3 : byteR (lgN s2) = 8) (h4 : (tokR (lgN (lgN s2)) sp).length ≤ 32) :
    htailS s2 sp len ok = if (varN (tokN (lgN (lgN s2)) sp)).2 = false ∧ 12 ≤ varR (tokN (lgN (lgN s2)) sp) ∧ varR (tokN (lgN (lgN s2)) sp) ≤ (varN (tokN (lgN (lgN s2)) sp)).1.length
      then some (⟨sp, N8.of (lgR s2), N8.of (lgR (lgN s2)), 1, false⟩, tokR (lgN (lgN s2)) sp, len - (varN (tokN (lgN (lgN s2)) sp)).1.length, len - (varN (tokN (lgN (lgN s2)) sp)).1.length + varR (tokN (lgN (lgN s2)) sp)) else none := by
  unfold htailS
  by_cases hc : (varN (tokN (lgN (lgN s2)) sp)).2 = false ∧ 12 ≤ varR (tokN (lgN (lgN s2)) sp) ∧ varR (tokN (lgN (lgN s2)) sp) ≤ (varN (tokN (lgN (lgN s2)) sp)).1.length
  · rw [if_pos hc, if_pos ⟨h1, h2, h3, h4, hc.1, hc.2.1, hc.2.2⟩]
  · rw [if_neg hc, if_neg (fun h => hc ⟨h.2.2.2.2.1, h.2.2.2.2.2.1, h.2.2.2.2.2.2⟩)]
end
end Go.Proofs.Ytehdilgnlhhjdaa
