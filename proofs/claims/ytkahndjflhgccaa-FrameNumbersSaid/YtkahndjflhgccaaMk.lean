/-
  The document's Decode (narthexref4), for all bytes.
-/
import Derived.Test.YtkahndjflhgccaaFd1
import Derived.Test.YtkahndjflhgccaaFd2
import Derived.Test.YtkahndjflhgccaaFd3
import Derived.Test.YtkahndjflhgccaaFd4
import Derived.Test.YtkahndjflhgccaaMh
import Derived.OwnWalk
import Derived.Test.YtkahndjflhgccaaLists
import Derived.Test.YtkahndjflhgccaaMb
namespace Go.Proofs.Ytkahndjflhgccaa
section
set_option linter.unusedVariables false
set_option linter.unusedSimpArgs false
open Go.RowKit
set_option maxRecDepth 100000 in
set_option maxHeartbeats 1000000 in
theorem rdec_big (A : Option Addr) (n c : Nat) (bs : List Int) (w : World) (hr : Rd w w.heap.size A n bs) (hnc : n ≤ c) (hcm : c ≤ maxLen) (hA : A = none → c = 0) (hl : n ≤ 100000000000000) (hk : 30 < varR (bs, false)) :
    Calls Try.prog 37 #[.slice A n c] w (RDPost w bs) := by
  have hrA := rdr_start A n c bs w hr hnc hcm hA
  have hP' : ∀ b, b < w.heap.size → b ≠ w.heap.size + 1 := fun b hb => by omega
  have hA20 : At ((w.alloc (.cells (frL (FN.zero 0) .nil .nil).toArray 31)).alloc (.cells #[.slice A n c, .bool false] 93)) w.heap.size 31 (frL (FN.zero 0) .nil .nil) := (At.new w _ _).alloc _
  have hB20 : Below w.heap.size w ((w.alloc (.cells (frL (FN.zero 0) .nil .nil).toArray 31)).alloc (.cells #[.slice A n c, .bool false] 93)) := ((Below.refl _ _).alloc (Nat.le_refl _) _).alloc (by simp) _
  have hno : readO (bs, false) = none := by unfold readO; rw [if_pos hk]
  have HNO := Lib.hid hno
  clear hno hr hA hcm
  go_enter Try.func37, Try.ntmps37
  go_wp2_with fail
  refine (rvar_any (w.heap.size + 1) 93 _ (bs, false) _ hrA hP').mono ?_
  rintro e w1 ⟨rfl, hr1, hk1⟩
  have hb := hrA.byt2
  obtain ⟨x, hx⟩ : ∃ x, varR (bs, false) = x := ⟨_, rfl⟩
  rw [hx] at hk hb ⊢
  clear hx
  have hA2 := hA20.kept hk1 (by omega)
  have hB1 := hk1.below hB20 hB20.size (fun j hj => by omega)
  clear hr1 hk1 hrA hA20 hB20
  obtain ⟨kv, hkv⟩ : ∃ y, bits BinOp.and IntKind.u64 x 255 = y := ⟨_, rfl⟩
  have q31 : decide (x < 31) = false := by simp; omega
  have q8 : decide (8 ≤ x) = true := by simp; omega
  have q15 : decide (x ≤ 15) = false := by simp; omega
  have e2 : (x == 2) = false := by simp; omega
  have e4 : (x == 4) = false := by simp; omega
  have e5 : (x == 5) = false := by simp; omega
  have e6 : (x == 6) = false := by simp; omega
  have e16 : (x == 16) = false := by simp; omega
  have e18 : (x == 18) = false := by simp; omega
  have e20 : (x == 20) = false := by simp; omega
  have e17 : (x == 17) = false := by simp; omega
  have e24 : (x == 24) = false := by simp; omega
  have e25 : (x == 25) = false := by simp; omega
  have e26 : (x == 26) = false := by simp; omega
  have e27 : (x == 27) = false := by simp; omega
  have e28 : (x == 28) = false := by simp; omega
  have hs1 := hB1.size
  go_wp2_with (first | ((with_reducible refine at_st (x := .tmp 6) ?_); refine st_top _ _ _ (by rfl) _ (by rfl) (by simp) (by rfl) (by rfl) (by rfl) (by rfl) ?_) | ((with_reducible refine at_st (x := .tmp 2) ?_); refine st_at _ _ (frL (FN.zero 0) .nil .nil) (by rfl) (by rfl) (hA2.alloc _) (by rfl) (by rfl) (by rfl) ?_; intro w9 hA9 hk9) | fail)
  refine bodyPost_ret (results_cell_tmp 2 3 31 (by rfl) _ 31 _ _ _ (by rfl) (by rfl) hA9 Try.underlying31 rfl fr_info) rfl ?_
  exact RDPost.no HNO.out (hk9.below (hB1.alloc hs1 _) (by simp; omega) (fun j hj => by omega))
theorem rdec_any (A : Option Addr) (n c : Nat) (bs : List Int) (w : World) (hr : Rd w w.heap.size A n bs) (hnc : n ≤ c) (hcm : c ≤ maxLen) (hA : A = none → c = 0) (hl : n ≤ 100000000000000) :
    Calls Try.prog 37 #[.slice A n c] w (RDPost w bs) := by
  rcases Int.lt_or_le 30 (varR (bs, false)) with h | h
  · exact rdec_big A n c bs w hr hnc hcm hA hl h
  · have hb := varR_bd (bs, false) hr.2.1
    have hc : varR (bs, false) = 0 ∨ varR (bs, false) = 1 ∨ varR (bs, false) = 2 ∨ varR (bs, false) = 3 ∨ varR (bs, false) = 4 ∨ varR (bs, false) = 5 ∨ varR (bs, false) = 6 ∨ varR (bs, false) = 7 ∨ varR (bs, false) = 8 ∨ varR (bs, false) = 9 ∨ varR (bs, false) = 10 ∨ varR (bs, false) = 11 ∨ varR (bs, false) = 12 ∨ varR (bs, false) = 13 ∨ varR (bs, false) = 14 ∨ varR (bs, false) = 15 ∨ varR (bs, false) = 16 ∨ varR (bs, false) = 17 ∨ varR (bs, false) = 18 ∨ varR (bs, false) = 19 ∨ varR (bs, false) = 20 ∨ varR (bs, false) = 21 ∨ varR (bs, false) = 22 ∨ varR (bs, false) = 23 ∨ varR (bs, false) = 24 ∨ varR (bs, false) = 25 ∨ varR (bs, false) = 26 ∨ varR (bs, false) = 27 ∨ varR (bs, false) = 28 ∨ varR (bs, false) = 29 ∨ varR (bs, false) = 30 := by omega
    rcases hc with h | h | h | h | h | h | h | h | h | h | h | h | h | h | h | h | h | h | h | h | h | h | h | h | h | h | h | h | h | h | h
    · exact rdec_G1 A n c bs w hr hnc hcm hA hl (by omega)
    · exact rdec_G1 A n c bs w hr hnc hcm hA hl (by omega)
    · exact rdec_G2 A n c bs w hr hnc hcm hA hl (by omega)
    · exact rdec_G1 A n c bs w hr hnc hcm hA hl (by omega)
    · exact rdec_G2 A n c bs w hr hnc hcm hA hl (by omega)
    · exact rdec_G2 A n c bs w hr hnc hcm hA hl (by omega)
    · exact rdec_G3 A n c bs w hr hnc hcm hA hl (by omega)
    · exact rdec_G1 A n c bs w hr hnc hcm hA hl (by omega)
    · exact rdec_G3 A n c bs w hr hnc hcm hA hl (by omega)
    · exact rdec_G3 A n c bs w hr hnc hcm hA hl (by omega)
    · exact rdec_G3 A n c bs w hr hnc hcm hA hl (by omega)
    · exact rdec_G3 A n c bs w hr hnc hcm hA hl (by omega)
    · exact rdec_G4 A n c bs w hr hnc hcm hA hl (by omega)
    · exact rdec_G4 A n c bs w hr hnc hcm hA hl (by omega)
    · exact rdec_G4 A n c bs w hr hnc hcm hA hl (by omega)
    · exact rdec_G4 A n c bs w hr hnc hcm hA hl (by omega)
    · exact rdec_G2 A n c bs w hr hnc hcm hA hl (by omega)
    · exact rdec_G3 A n c bs w hr hnc hcm hA hl (by omega)
    · exact rdec_G2 A n c bs w hr hnc hcm hA hl (by omega)
    · exact rdec_G1 A n c bs w hr hnc hcm hA hl (by omega)
    · exact rdec_G2 A n c bs w hr hnc hcm hA hl (by omega)
    · exact rdec_G1 A n c bs w hr hnc hcm hA hl (by omega)
    · exact rdec_G1 A n c bs w hr hnc hcm hA hl (by omega)
    · exact rdec_G2 A n c bs w hr hnc hcm hA hl (by omega)
    · exact rdec_G4 A n c bs w hr hnc hcm hA hl (by omega)
    · exact rdec_G3 A n c bs w hr hnc hcm hA hl (by omega)
    · exact rdec_G4 A n c bs w hr hnc hcm hA hl (by omega)
    · exact rdec_G4 A n c bs w hr hnc hcm hA hl (by omega)
    · exact rdec_G3 A n c bs w hr hnc hcm hA hl (by omega)
    · exact rdec_G2 A n c bs w hr hnc hcm hA hl (by omega)
    · exact rdec_G1 A n c bs w hr hnc hcm hA hl (by omega)
end
section
set_option linter.unusedVariables false
set_option linter.unusedSimpArgs false
open Go.RowKit
structure RAllL (w : World) (n : Nat) (tot : Option (List FD)) (gk : Nat) (A : Option Addr) (m c : Nat) (rest : List Int) (v : Value) (L : List FR) (wr : World) : Prop where
  rd : Rd wr w.heap.size A m rest
  nc : m ≤ c
  cm : c ≤ maxLen
  nil : A = none → c = 0
  own : OwnF wr w.heap.size v L
  ft : ∀ x ∈ L, Fits wr (fun b => w.heap.size ≤ b ∧ v.ownBlock ≠ some b) x.m x.d x.r x.ds x.rs
  bl : Below w.heap.size w wr
  eq : tot = if rest = [] then (if L = [] then none else some (L.map FR.fd)) else (allO gk (rest, false)).map (L.map FR.fd ++ ·)
  lt : rest.length < gk
  ln : L.length + rest.length ≤ n
def RAllPost (bs : List Int) (w : World) (e : Ending) (w' : World) : Prop :=
  (match allO (bs.length + 1) (bs, false) with
  | none => ∃ A n c, e = .returned (.tuple #[.slice A n c, .bool false])
  | some t => ∃ A n c L, e = .returned (.tuple #[.slice A n c, .bool true]) ∧ FrsP w' (fun b => w.heap.size ≤ b) A n L ∧ L.map FR.fd = t ∧ n ≤ c ∧ c ≤ maxLen) ∧ Below w.heap.size w w'
theorem RAllPost.no {bs : List Int} {w w' : World} {A : Option Addr} {n c : Nat} (h : allO (bs.length + 1) (bs, false) = none) (hb : Below w.heap.size w w') : RAllPost bs w (.returned (.tuple #[.slice A n c, .bool false])) w' := by
  unfold RAllPost; rw [h]; exact ⟨⟨A, n, c, rfl⟩, hb⟩
theorem RAllPost.yes {bs : List Int} {w w' : World} {A : Option Addr} {n c : Nat} {L : List FR} (h : allO (bs.length + 1) (bs, false) = some (L.map FR.fd)) (hf : FrsP w' (fun b => w.heap.size ≤ b) A n L) (hn : n ≤ c) (hc : c ≤ maxLen) (hb : Below w.heap.size w w') : RAllPost bs w (.returned (.tuple #[.slice A n c, .bool true])) w' := by
  unfold RAllPost; rw [h]; exact ⟨⟨A, n, c, L, rfl, hf, rfl, hn, hc⟩, hb⟩
theorem readO_empty : readO ([], false) = none := by
  cases h : readO ([], false) with
  | none => rfl
  | some x =>
    obtain ⟨m, ds, rs, s'⟩ := x
    obtain ⟨_, _, _, q, q1, q2, _⟩ := readO_eats ([], false) Byt.nil m ds rs s' h
    simp at q2; omega
set_option maxRecDepth 100000 in
set_option maxHeartbeats 2000000 in
theorem rall_any (A : Option Addr) (n c : Nat) (bs : List Int) (w : World) (hr : Rd w w.heap.size A n bs) (hnc : n ≤ c) (hcm : c ≤ maxLen) (hn : n ≤ 10000000000) (hA : A = none → c = 0) :
    Calls Try.prog 38 #[.slice A n c] w (RAllPost bs w) := by
  have hbn := hr.1
  have hl0 : bs.length < bs.length + 1 := Nat.lt_succ_self _
  have heq0 : allO (bs.length + 1) (bs, false) = if bs = [] then (if ([] : List FR) = [] then none else some (([] : List FR).map FR.fd)) else (allO (bs.length + 1) (bs, false)).map (([] : List FR).map FR.fd ++ ·) := by
    by_cases hb : bs = []
    · subst hb
      rw [if_pos rfl, if_pos rfl]
      show allO 1 ([], false) = none
      simp [allO, readO_empty]
    · rw [if_neg hb]
      cases allO (bs.length + 1) (bs, false) <;> simp
  obtain ⟨tot, htot⟩ : ∃ x, allO (bs.length + 1) (bs, false) = x := ⟨_, rfl⟩
  have HTOT := Lib.hid htot
  obtain ⟨G, hG⟩ : ∃ x, bs.length + 1 = x := ⟨_, rfl⟩
  rw [hG] at heq0 hl0
  have htot2 : allO G (bs, false) = tot := by rw [← hG]; exact htot
  have HI : Hid (RAllL w n tot G A n c bs (.slice none 0 0) [] w) := Lib.hid
    ⟨hr, hnc, hcm, hA, World.ownsRow_nil _ _ _ _, fun _ h => by simp at h, Below.refl _ _, by rw [htot2] at heq0; rw [htot2]; exact heq0, hl0, by simp [hbn]⟩
  have hGn : G ≤ n + 1 := by omega
  clear htot hG heq0 hl0 hr hA htot2 hbn
  go_enter Try.func38, Try.ntmps38
  go_wp2_with fail
  go_loopg [0, 4] G (fun gk b l wr => ∃ (A : Option Addr) (m c : Nat) (rest : List Int) (Al : Option Addr) (k cl : Nat) (L : List FR), b = .slice A m c ∧ l = .slice Al k cl ∧ L.length = k ∧ gk ≤ G ∧ Hid (RAllL w n tot gk A m c rest (.slice Al k cl) L wr))
  case atStart => exact ⟨A, n, c, _, none, 0, 0, _, rfl, rfl, rfl, Nat.le_refl _, HI⟩
  case round =>
    clear HI
    obtain ⟨Ab, m, cb, rest, Al, k, cl, L, rfl, rfl, hLk, hgk, hat⟩ := hrel
    have hbs := hat.out.bl.size
    have hrl := hat.out.rd.1
    have hmc := hat.out.nc
    have hlt := hat.out.lt
    have hln := hat.out.ln
    by_cases hm : 0 < m
    · have hmI : decide ((0 : Int) < (m : Int)) = true := by simp; omega
      have hrn : rest ≠ [] := fun h => by rw [h] at hrl; simp at hrl; omega
      have HC := Lib.hid (rdec_any Ab m cb rest wr (hat.out.rd.more hbs) hat.out.nc hat.out.cm hat.out.nil (by omega))
      go_wp2_with fail
      refine HC.out.mono ?_
      clear HC
      intro e w2 hpost
      unfold RDPost at hpost
      cases hro : readO (rest, false) with
      | none =>
        rw [hro] at hpost
        obtain ⟨rfl, hb2⟩ := hpost
        have hz : tot = none := by
          rw [hat.out.eq, if_neg hrn]
          obtain ⟨g', rfl⟩ : ∃ g', gk = g' + 1 := ⟨gk - 1, by omega⟩
          simp [allO, hro]
        have HZ := Lib.hid hz
        have hB2 := hat.out.bl.trans (hb2.mono hbs)
        obtain ⟨LZ, hLZ⟩ : ∃ L, frL (FN.zero 0) .nil .nil = L := ⟨_, rfl⟩
        have hLl : LZ.length = 19 := by rw [← hLZ]; rfl
        have hone : LZ.all (·.oneCell') = true := by rw [← hLZ]; rfl
        have hfv : frV (FN.zero 0) .nil .nil = .agg LZ.toArray := by rw [← hLZ]; rfl
        have HLl := Lib.hid hLl
        have HO := Lib.hid hone
        rw [hfv]
        clear hro hb2 hLZ hLl hone hfv hz hat
        go_wp2_with (first | ((with_reducible refine at_st (x := .tmp 5) ?_); refine st_top _ _ LZ (by rfl) _ (by rfl) (by simp) (by rfl) (by rfl) HLl.out HO.out ?_) | fail)
        go_ret2
        exact RAllPost.no (HTOT.out.trans HZ.out) (hB2.alloc (by have := hB2.size; omega) _)
      | some x =>
        obtain ⟨m', ds, rs, s'⟩ := x
        rw [hro] at hpost
        obtain ⟨d, r, rfl, hf2, hb2⟩ := hpost
        simp only at hf2
        obtain ⟨y, rfl, rfl, rfl, rfl, rfl⟩ : ∃ y : FR, y.m = m' ∧ y.d = d ∧ y.r = r ∧ y.ds = ds ∧ y.rs = rs := ⟨⟨m', d, r, ds, rs⟩, rfl, rfl, rfl, rfl, rfl⟩
        obtain ⟨hs'2, _, _, q, q1, q2, q3⟩ := readO_eats (rest, false) hat.out.rd.2.1 y.m y.ds y.rs s' hro
        simp only at q2 q3
        have hs'e : s' = (rest.drop q, false) := by obtain ⟨a, b⟩ := s'; simp only at hs'2 q3; rw [hs'2, q3]
        subst hs'e
        clear hs'2 q3
        have hdl : (rest.drop q).length = m - q := by rw [List.length_drop, hrl]
        have hqv : ((rest.length : Int) - ((rest.drop q).length : Int)) = (q : Int) := by rw [hdl, hrl]; omega
        have heq : tot = if rest.drop q = [] then (if L ++ [y] = [] then none else some ((L ++ [y]).map FR.fd)) else (allO (gk - 1) (rest.drop q, false)).map ((L ++ [y]).map FR.fd ++ ·) := by
          rw [hat.out.eq, if_neg hrn]
          obtain ⟨g', rfl⟩ : ∃ g', gk = g' + 1 := ⟨gk - 1, by omega⟩
          simp only [allO, hro, Nat.add_sub_cancel]
          by_cases hz : rest.drop q = []
          · rw [if_pos hz, if_pos (by rw [hz]; rfl), if_neg (by simp)]
            simp [FR.fd]
          · rw [if_neg hz, if_neg (fun h => hz (List.eq_nil_of_length_eq_zero h))]
            cases allO g' (rest.drop q, false) with
            | none => rfl
            | some t => simp [FR.fd]
        have hB2 := hat.out.bl.trans (hb2.mono hbs)
        have hvb := hat.out.own.block_lt
        have O2 := hat.out.own.kept (Kept.of_below hb2 (fun _ => False)) (fun _ _ h => h)
        have F2 : ∀ x ∈ L, Fits w2 (fun b => w.heap.size ≤ b ∧ (Value.slice Al k cl).ownBlock ≠ some b) x.m x.d x.r x.ds x.rs := fun x hx => (hat.out.ft x hx).below hb2
        have F2y : Fits w2 (fun b => w.heap.size ≤ b ∧ (Value.slice Al k cl).ownBlock ≠ some b) y.m y.d y.r y.ds y.rs := hf2.mono (fun b _ hb => ⟨by omega, fun e => by have := (hvb b e).2; omega⟩)
        have R2 := hat.out.rd.below (hb2.mono hbs)
        have hs2 := hB2.size
        obtain ⟨LF, hLF⟩ : ∃ L, frL y.m y.d y.r = L := ⟨_, rfl⟩
        have hLl : LF.length = 19 := by rw [← hLF]; rfl
        have hone : LF.all (·.oneCell') = true := by rw [← hLF]; rfl
        have hfv : frV y.m y.d y.r = .agg LF.toArray := by rw [← hLF]; rfl
        have hbB : Below w2.heap.size w2 ((w2.alloc (.cells LF.toArray 31)).alloc (.cells LF.toArray 31)) := ((Below.refl _ _).alloc (Nat.le_refl _) _).alloc (by simp) _
        have O3 := O2.kept (Kept.of_below hbB (fun _ => False)) (fun _ _ h => h)
        have F3 := fun x hx => (F2 x hx).below hbB
        have F3y := F2y.below hbB
        have R3 := R2.below (hbB.mono hs2)
        have B3 := hB2.trans (hbB.mono hs2)
        have C3 : At ((w2.alloc (.cells LF.toArray 31)).alloc (.cells LF.toArray 31)) (w2.heap.size + 1) 31 (frL y.m y.d y.r) := by rw [hLF]; exact At.new_ _ _ _ (by simp)
        have A6 := At.new w2 31 LF
        have hs3 : ((w2.alloc (.cells LF.toArray 31)).alloc (.cells LF.toArray 31)).heap.size = w2.heap.size + 1 + 1 := by simp
        have HLl := Lib.hid hLl
        have HO := Lib.hid hone
        have HEQ := Lib.hid heq
        have HO3 := Lib.hid O3
        have HC3 := Lib.hid C3
        have HS3 := Lib.hid hs3
        have HR3 := Lib.hid R3
        rw [hfv, hqv]
        have hLn : L.length ≤ 100000000000 := by omega
        have hbs3 : w.heap.size ≤ ((w2.alloc (.cells LF.toArray 31)).alloc (.cells LF.toArray 31)).heap.size := by omega
        have HBS := Lib.hid hbs3
        have hcm := hat.out.cm
        have HCM := Lib.hid hcm
        have HNIL := Lib.hid hat.out.nil
        have hqz : ((q : Int) == 0) = false := by simp; omega
        have hqn : ((m : Int) < (q : Int)) = False := by simp; omega
        have hqe : decide ((q : Int) > (m : Int)) = false := decide_eq_false (by omega)
        have hqf : decide ((m : Int) < (q : Int)) = false := decide_eq_false (by omega)
        have hqm : q ≤ m := by omega
        have hm2 : m - q < gk - 1 := by omega
        obtain ⟨ba, oa, rfl, _⟩ := hat.out.rd.2.2 hm
        have HDL := Lib.hid hdl
        clear hro hb2 hLF hLl hone hfv hat heq O2 F2 F2y O3 C3 hs3 hbs3 hbB hf2 R2 R3 hdl hqv hcm
        unfold maxLen at HCM
        have hcm' := HCM.out
        go_wp2_with (first | ((with_reducible refine at_st (x := .tmp 5) ?_); refine st_top _ _ LF (by rfl) _ (by rfl) (by simp) (by rfl) (by rfl) HLl.out HO.out ?_) | ((with_reducible refine at_ld (x := .tmp 5) ?_); refine ld_fr_g _ _ (by rfl) (by rfl) A6 HLl.out ?_) | (refine wpList_bs1 LF (w2.heap.size + 1) (by simp) (by rfl) HLl.out ?_) | (at_builtin; refine wpList_append_f rfl (.tmp 17) (.tmp 19) rfl w.heap.size _ L rfl HO3.out (w2.heap.size + 1) 1 y (by rfl) HC3.out hLn HBS.out ?_; intro v7 w7 hown7 hgr7 hv7; obtain ⟨A7, c7, rfl, hc7, hm7⟩ := hown7.shape (L.length + 1) (by simp)) | fail)
        all_goals
          have K7 := Kept.of_grown (S := fun k' => (Value.slice Al k cl).ownBlock = some k') hgr7 (fun k hk => .inl hk)
          have hvb3 : ∀ k', (Value.slice Al k cl).ownBlock = some k' → w.heap.size ≤ k' := fun k' hk' => (HO3.out.block_lt k' hk').1
          have BX : Below w.heap.size ((w2.alloc (.cells LF.toArray 31)).alloc (.cells LF.toArray 31)) w7 := K7.below (Below.refl _ _) HBS.out (fun j hj => hvb3 j hj)
          have R7 := (HR3.out.below BX).cutFrom (c := cb) (k := q) hqm hmc
          have B7 : Below w.heap.size w w7 := B3.trans BX
          have F7 : ∀ x ∈ L ++ [y], Fits w7 (fun b => w.heap.size ≤ b ∧ (Value.slice A7 (L.length + 1) c7).ownBlock ≠ some b) x.m x.d x.r x.ds x.rs := fun x hx => by
            have hx3 : Fits ((w2.alloc (.cells LF.toArray 31)).alloc (.cells LF.toArray 31)) (fun b => w.heap.size ≤ b ∧ (Value.slice Al k cl).ownBlock ≠ some b) x.m x.d x.r x.ds x.rs := by
              rcases List.mem_append.1 hx with hx | hx
              · exact F3 x hx
              · simp at hx; subst hx; exact F3y
            have hx4 : Fits ((w2.alloc (.cells LF.toArray 31)).alloc (.cells LF.toArray 31)) (fun b => (w.heap.size ≤ b ∧ (Value.slice Al k cl).ownBlock ≠ some b) ∧ (Value.slice A7 (L.length + 1) c7).ownBlock ≠ some b) x.m x.d x.r x.ds x.rs := hx3.mono (fun b hb hP => ⟨hP, fun e => by
              rcases hv7 with h | h
              · rw [h] at e; exact hP.2 e
              · rw [h] at e; injection e with e; omega⟩)
            exact (hx4.kept K7 (fun b hb e => hb.1.2 e)).mono (fun b _ hb => ⟨hb.1.1, hb.2⟩)
          have hn7 : (L ++ [y]).length + (rest.drop q).length ≤ n := by rw [List.length_append, HDL.out]; simp only [List.length_cons, List.length_nil]; omega
          have hlt7 : (rest.drop q).length < gk - 1 := by rw [HDL.out]; omega
          rw [hLk] at hown7 F7
        · have hcq : cb = q := by omega
          have hca : cutA (some ⟨ba, oa, none⟩) cb q = some ⟨ba, oa, none⟩ := by unfold cutA; rw [if_pos hcq]
          rw [hca] at R7
          have HN : Hid (RAllL w n tot (gk - 1) (some ⟨ba, oa, none⟩) (m - q) 0 (rest.drop q) (.slice A7 (k + 1) c7) (L ++ [y]) w7) := Lib.hid
            ⟨R7, by omega, by unfold maxLen; omega, (fun h => by cases h), hown7, F7, B7, HEQ.out, hlt7, hn7⟩
          clear K7 hvb3 BX R7 B7 F7 hown7 hgr7 hv7 B3 F3 F3y A6 hB2
          go_roundg (gk - 1)
          case measure => omega
          case rel => exact ⟨_, m - q, 0, _, _, k + 1, c7, _, rfl, rfl, by rw [List.length_append, hLk]; rfl, by omega, HN⟩
        · have hcq : ¬ cb = q := by omega
          have hca : cutA (some ⟨ba, oa, none⟩) cb q = some ⟨ba, oa + q, none⟩ := by unfold cutA; rw [if_neg hcq, Option.map_some, addr_add]
          rw [hca] at R7
          have HN : Hid (RAllL w n tot (gk - 1) (some ⟨ba, oa + q, none⟩) (m - q) (cb - q) (rest.drop q) (.slice A7 (k + 1) c7) (L ++ [y]) w7) := Lib.hid
            ⟨R7, by omega, by unfold maxLen; omega, (fun h => by cases h), hown7, F7, B7, HEQ.out, hlt7, hn7⟩
          clear K7 hvb3 BX R7 B7 F7 hown7 hgr7 hv7 B3 F3 F3y A6 hB2
          go_roundg (gk - 1)
          case measure => omega
          case rel => exact ⟨_, m - q, cb - q, _, _, k + 1, c7, _, rfl, rfl, by rw [List.length_append, hLk]; rfl, by omega, HN⟩
    · obtain rfl : m = 0 := by omega
      have hre : rest = [] := List.eq_nil_of_length_eq_zero hrl
      have heq := hat.out.eq
      rw [if_pos hre] at heq
      have hB := hat.out.bl
      rcases Nat.eq_zero_or_pos k with hk0 | hk0
      · subst hk0
        have hL0 : L = [] := List.eq_nil_of_length_eq_zero hLk
        rw [if_pos hL0] at heq
        have HEQ := Lib.hid heq
        clear hat heq hre hL0 hrl
        go_wp2_with fail
        go_ret2
        exact RAllPost.no (HTOT.out.trans HEQ.out) hB
      · have hL0 : L ≠ [] := fun h => by rw [h] at hLk; simp at hLk; omega
        rw [if_neg hL0] at heq
        have HEQ := Lib.hid heq
        obtain ⟨_, _, e7, hc7, hm7⟩ := hat.out.own.shape k hLk
        injection e7 with e1 _ e3
        subst e1; subst e3
        have hfrs := hat.out.own.frsP (P := fun b => w.heap.size ≤ b) hLk (fun b hb => hb) (fun x hx => (hat.out.ft x hx).mono (fun b _ hb => hb.1))
        have HF := Lib.hid hfrs
        have hkI : decide ((0 : Int) < (k : Int)) = true := by simp; omega
        clear hat heq hre hL0 hrl hfrs
        go_wp2_with fail
        go_ret2
        exact RAllPost.yes (HTOT.out.trans HEQ.out) HF.out hc7 hm7 hB
end
section
set_option linter.unusedVariables false
set_option linter.unusedSimpArgs false
open Go.RowKit
theorem listsB_fd : ∀ L M : List FR, L.map FR.fd = M.map FR.fd → listsB L M = true
  | [], [], _ => rfl
  | [], _ :: _, h => by simp at h
  | _ :: _, [], h => by simp at h
  | x :: t, y :: u, h => by
    simp only [List.map_cons, List.cons.injEq] at h
    obtain ⟨h1, h2⟩ := h
    unfold FR.fd at h1
    simp only [Prod.mk.injEq] at h1
    unfold listsB
    rw [h1.1, h1.2.1, h1.2.2, sameB_refl, listsB_fd t u h2]; rfl
theorem allO_len : ∀ (n : Nat) (s : St) (t : List FD), allO n s = some t → t.length ≤ n
  | 0, _, t, h => by simp [allO] at h
  | n + 1, s, t, h => by
    unfold allO at h
    cases hr : readO s with
    | none => rw [hr] at h; cases h
    | some x =>
      rw [hr] at h
      simp only at h
      split at h
      · injection h with h; subst h; simp
      · cases ha : allO n x.2.2.2 with
        | none => rw [ha] at h; cases h
        | some u =>
          rw [ha] at h
          simp only [Option.map_some, Option.some.injEq] at h
          subst h
          have := allO_len n _ u ha
          simp; exact this
theorem Fits.zero0 (w : World) (P : Nat → Prop) : Fits w P (FN.zero 0) .nil .nil [] [] := ⟨wf_zero 0 (by omega) (by omega), InD.nil_ _ _, InR.nil_ _ _⟩
set_option maxRecDepth 100000 in
set_option maxHeartbeats 2000000 in
theorem fdecs_any (A : Option Addr) (n c : Nat) (bs : List Int) (w : World) (h : InRow w A n c bs) (hn : n ≤ 1000000) :
    Calls Try.prog 13 #[.slice A n c] w (FrPost (.bool true) w) := by
  obtain ⟨hr, hnc, hcm, hA⟩ := h
  have hd1 := decode_any A n c bs w hr (by omega) hA
  have hd2 : ∀ W : World, Below w.heap.size w W → Calls Try.prog 37 #[.slice A n c] W (RDPost W bs) := fun W hW => rdec_any A n c bs W ((hr.below hW).more hW.size) hnc hcm hA (by omega)
  have ha1 : ∀ W : World, Below w.heap.size w W → Calls Try.prog 20 #[.slice A n c] W (AllPost bs W) := fun W hW => all_any A n c bs W ((hr.below hW).more hW.size) (by omega) hA
  have ha2 : ∀ W : World, Below w.heap.size w W → Calls Try.prog 38 #[.slice A n c] W (RAllPost bs W) := fun W hW => rall_any A n c bs W ((hr.below hW).more hW.size) hnc hcm (by omega) hA
  have key1 : ∃ (m : FN) (ds : List Int) (rs : RS) (why cnt : Int), ((why == 0) = decide (0 < cnt)) ∧ ((cnt == 0) = true → (why != 12) = false) ∧ (∀ W e W', DecPost bs W e W' → ∃ d r, e = .returned (.tuple #[frV m d r, .int .i64 cnt, .int .i64 why]) ∧ Fits W' (fun _ => True) m d r ds rs ∧ Below W.heap.size W W') ∧
      (∀ W e W', RDPost W bs e W' → ∃ d r, e = .returned (.tuple #[frV m d r, .int .i64 cnt]) ∧ Fits W' (fun _ => True) m d r ds rs ∧ Below W.heap.size W W') := by
    unfold DecPost RDPost
    cases hro : readO (bs, false) with
    | none =>
      refine ⟨FN.zero 0, [], [], 12, 0, rfl, fun _ => rfl, ?_, ?_⟩
      · rintro W e W' ⟨rfl, hb⟩
        exact ⟨.nil, .nil, rfl, Fits.zero0 _ _, hb⟩
      · rintro W e W' ⟨rfl, hb⟩
        exact ⟨.nil, .nil, rfl, Fits.zero0 _ _, hb⟩
    | some x =>
      obtain ⟨m, ds, rs, s'⟩ := x
      obtain ⟨_, _, _, q, q1, q2, q3⟩ := readO_eats (bs, false) hr.2.1 m ds rs s' hro
      have hlt : s'.1.length < bs.length := by rw [q3, List.length_drop]; simp only at q2 ⊢; omega
      refine ⟨m, ds, rs, 0, (bs.length : Int) - (s'.1.length : Int), by simp; omega, fun h => by simp at h; omega, ?_, ?_⟩
      · rintro W e W' ⟨⟨d, r, rfl, hf⟩, hb⟩
        exact ⟨d, r, rfl, hf.mono (fun _ _ _ => trivial), hb⟩
      · rintro W e W' ⟨d, r, rfl, hf, hb⟩
        exact ⟨d, r, rfl, hf.mono (fun _ _ _ => trivial), hb⟩
  have key2 : ∃ (ok : Bool) (why : Int), ((why == 0) = ok) ∧ (ok = false → (why == 12) = true) ∧ ∃ fds : List FD, fds.length ≤ 1000001 ∧
      (∀ W e W', AllPost bs W e W' → ∃ A n c L, e = .returned (.tuple #[.slice A n c, .int .i64 why]) ∧ FrsP W' (fun _ => True) A n L ∧ L.map FR.fd = fds ∧ (ok = false → n = 0) ∧ Below W.heap.size W W') ∧
      (∀ W e W', RAllPost bs W e W' → ∃ A n c L, e = .returned (.tuple #[.slice A n c, .bool ok]) ∧ (ok = true → FrsP W' (fun _ => True) A n L ∧ L.map FR.fd = fds) ∧ Below W.heap.size W W') := by
    unfold AllPost RAllPost
    cases hro : allO (bs.length + 1) (bs, false) with
    | none =>
      refine ⟨false, 12, rfl, fun _ => rfl, [], by simp, ?_, ?_⟩
      · rintro W e W' ⟨rfl, hb⟩
        exact ⟨none, 0, 0, [], rfl, ⟨rfl, fun h => absurd h (by omega), fun _ h => by simp at h⟩, rfl, fun _ => rfl, hb⟩
      · rintro W e W' ⟨⟨A, n, c, rfl⟩, hb⟩
        exact ⟨A, n, c, [], rfl, (fun h => by cases h), hb⟩
    | some t =>
      refine ⟨true, 0, rfl, (fun h => by cases h), t, by have h1 := allO_len _ _ _ hro; have h2 := hr.1; omega, ?_, ?_⟩
      · rintro W e W' ⟨⟨A, n, c, L, rfl, hf, _, _, he⟩, hb⟩
        exact ⟨A, n, c, L, rfl, hf.mono (fun _ _ _ => trivial), he, (fun h => by cases h), hb⟩
      · rintro W e W' ⟨⟨A, n, c, L, rfl, hf, he, _, _⟩, hb⟩
        exact ⟨A, n, c, L, rfl, fun _ => ⟨hf.mono (fun _ _ _ => trivial), he⟩, hb⟩
  obtain ⟨m, ds, rs, why, cnt, hw1, hw2, K1, K2⟩ := key1
  obtain ⟨ok, why2, hv1, hv2, fds, hfl, K3, K4⟩ := key2
  have HD1 := Lib.hid hd1
  have HD2 := Lib.hid hd2
  have HA1 := Lib.hid ha1
  have HA2 := Lib.hid ha2
  have HK1 := Lib.hid K1
  have HK2 := Lib.hid K2
  have HK3 := Lib.hid K3
  have HK4 := Lib.hid K4
  have hw3 : ((why == 0) != decide (0 < cnt)) = false := by rw [hw1]; simp
  clear hd1 hd2 ha1 ha2 K1 K2 K3 K4 hr hnc hcm hA
  go_enter Try.func13, Try.ntmps13
  go_wp2_with fail
  refine HD1.out.mono ?_
  intro e w1 hpo
  obtain ⟨d1, r1, rfl, hf1, hb1⟩ := HK1.out _ _ _ hpo
  clear hpo HD1 HK1
  obtain ⟨L1, hL1⟩ : ∃ L, frL m d1 r1 = L := ⟨_, rfl⟩
  have hl1 : L1.length = 19 := by rw [← hL1]; rfl
  have ho1 : L1.all (·.oneCell') = true := by rw [← hL1]; rfl
  have hfv1 : frV m d1 r1 = .agg L1.toArray := by rw [← hL1]; rfl
  have HL1 := Lib.hid hl1
  have HO1 := Lib.hid ho1
  have HFV1 := Lib.hid hfv1
  rw [hfv1]
  have hA1 := At.new w1 31 L1
  have hal1 : Below w1.heap.size w1 (w1.alloc (.cells L1.toArray 31)) := (Below.refl _ _).alloc (Nat.le_refl _) _
  have hf1' := hf1.below hal1
  have hB1 := hb1.trans (hal1.mono hb1.size)
  have hs1 : (w1.alloc (.cells L1.toArray 31)).heap.size = w1.heap.size + 1 := by simp
  clear hL1 hl1 ho1 hfv1 hf1 hal1 hb1
  go_wp2_with (first | ((with_reducible refine at_st (x := .tmp 3) ?_); refine st_top _ _ L1 (by rfl) _ (by rfl) (by simp) (by rfl) (by rfl) HL1.out HO1.out ?_) | fail)
  refine (HD2.out _ hB1).mono ?_
  intro e w2 hpo
  obtain ⟨d2, r2, rfl, hf2, hb2⟩ := HK2.out _ _ _ hpo
  clear hpo HD2 HK2
  obtain ⟨L2, hL2⟩ : ∃ L, frL m d2 r2 = L := ⟨_, rfl⟩
  have hl2 : L2.length = 19 := by rw [← hL2]; rfl
  have ho2 : L2.all (·.oneCell') = true := by rw [← hL2]; rfl
  have hfv2 : frV m d2 r2 = .agg L2.toArray := by rw [← hL2]; rfl
  have HL2 := Lib.hid hl2
  have HO2 := Lib.hid ho2
  have HFV2 := Lib.hid hfv2
  rw [hfv2]
  have hA1b := hA1.below hb2 hA1.lt
  have hf1b := hf1'.below hb2
  have hB2 := hB1.trans (hb2.mono hB1.size)
  have hA2 := At.new w2 31 L2
  have hal2 : Below w2.heap.size w2 (w2.alloc (.cells L2.toArray 31)) := (Below.refl _ _).alloc (Nat.le_refl _) _
  have hA1c := hA1b.below hal2 hA1b.lt
  have hf1c := hf1b.below hal2
  have hf2c := hf2.below hal2
  have hB3 := hB2.trans (hal2.mono hB2.size)
  have hsm := rsame_any (fun _ => True) m m d1 d2 r1 r2 ds ds rs rs _ hf1c hf2c
  rw [sameB_refl, HFV1.out, HFV2.out] at hsm
  have HSM := Lib.hid hsm
  have h12 : w1.heap.size < w2.heap.size := by have := hA1b.lt; omega
  clear hL2 hl2 ho2 hfv2 hf2 hal2 hb2 hA1 hA1b hf1' hf1b hf1c hf2c hsm hB1 hB2 hs1
  have hcc : (cnt != cnt) = false := by simp
  cases hz : (cnt == 0) with
  | true =>
    have hz12 := hw2 hz
    go_wp2_with (first | ((with_reducible refine at_st (x := .tmp 6) ?_); refine st_top _ _ L2 (by rfl) _ (by rfl) (by simp) (by rfl) (by rfl) HL2.out HO2.out ?_) | ((with_reducible refine at_ld (x := .tmp 3) ?_); refine ld_fr_g _ _ (by rfl) (by rfl) hA1c HL1.out ?_) | ((with_reducible refine at_ld (x := .tmp 6) ?_); refine ld_fr_g _ _ (by rfl) (by rfl) hA2 HL2.out ?_) | fail)
    refine HSM.out.mono ?_
    rintro e w3 ⟨rfl, hb3⟩
    have hB4 := hB3.trans (hb3.mono hB3.size)
    clear hb3 hA1c hA2 HSM
    go_wp2_with fail
    refine (HA1.out _ hB4).mono ?_
    intro e w5 hpo
    obtain ⟨A5, n5, c5, M5, rfl, hf5, he5, hz5, hb5⟩ := HK3.out _ _ _ hpo
    have hB5 := hB4.trans (hb5.mono hB4.size)
    clear hpo hb5 HA1 HK3
    go_wp2_with fail
    refine (HA2.out _ hB5).mono ?_
    intro e w6 hpo
    obtain ⟨A6, n6, c6, M6, rfl, hx6, hb6⟩ := HK4.out _ _ _ hpo
    have hB6 := hB5.trans (hb6.mono hB5.size)
    have hf6 := hf5.below hb6
    clear hpo HA2 HK4 hb6 hf5
    cases ok with
    | true =>
      obtain ⟨hf7, he7⟩ := hx6 rfl
      have hls := lists_any _ _ A5 A6 n5 n6 c5 c6 M5 M6 w6 hf6 hf7 (by have h1 := hf6.1; rw [← he5, List.length_map] at hfl; omega)
      rw [listsB_fd M5 M6 (he5.trans he7.symm)] at hls
      have HLS := Lib.hid hls
      clear hls he5 he7 hz5 hv2 hx6 hf6 hf7
      go_wp2_with fail
      refine HLS.out.mono ?_
      rintro e w7 ⟨rfl, hb7⟩
      go_wp2_with fail
      go_ret
      exact ⟨rfl, hB6.trans (hb7.mono hB6.size)⟩
    | false =>
      have hv3 := hv2 rfl
      have hn5 := hz5 rfl
      subst hn5
      clear hz5 hv2 hx6 hf6 he5
      go_wp2_with fail
      go_ret
      exact ⟨rfl, hB6⟩
  | false =>
    go_wp2_with (first | ((with_reducible refine at_st (x := .tmp 6) ?_); refine st_top _ _ L2 (by rfl) _ (by rfl) (by simp) (by rfl) (by rfl) HL2.out HO2.out ?_) | ((with_reducible refine at_ld (x := .tmp 3) ?_); refine ld_fr_g _ _ (by rfl) (by rfl) hA1c HL1.out ?_) | ((with_reducible refine at_ld (x := .tmp 6) ?_); refine ld_fr_g _ _ (by rfl) (by rfl) hA2 HL2.out ?_) | fail)
    refine HSM.out.mono ?_
    rintro e w3 ⟨rfl, hb3⟩
    have hB4 := hB3.trans (hb3.mono hB3.size)
    clear hb3 hA1c hA2 HSM
    go_wp2_with fail
    refine (HA1.out _ hB4).mono ?_
    intro e w5 hpo
    obtain ⟨A5, n5, c5, M5, rfl, hf5, he5, hz5, hb5⟩ := HK3.out _ _ _ hpo
    have hB5 := hB4.trans (hb5.mono hB4.size)
    clear hpo hb5 HA1 HK3
    go_wp2_with fail
    refine (HA2.out _ hB5).mono ?_
    intro e w6 hpo
    obtain ⟨A6, n6, c6, M6, rfl, hx6, hb6⟩ := HK4.out _ _ _ hpo
    have hB6 := hB5.trans (hb6.mono hB5.size)
    have hf6 := hf5.below hb6
    clear hpo HA2 HK4 hb6 hf5
    cases ok with
    | true =>
      obtain ⟨hf7, he7⟩ := hx6 rfl
      have hls := lists_any _ _ A5 A6 n5 n6 c5 c6 M5 M6 w6 hf6 hf7 (by have h1 := hf6.1; rw [← he5, List.length_map] at hfl; omega)
      rw [listsB_fd M5 M6 (he5.trans he7.symm)] at hls
      have HLS := Lib.hid hls
      clear hls he5 he7 hz5 hv2 hx6 hf6 hf7
      go_wp2_with fail
      refine HLS.out.mono ?_
      rintro e w7 ⟨rfl, hb7⟩
      go_wp2_with fail
      go_ret
      exact ⟨rfl, hB6.trans (hb7.mono hB6.size)⟩
    | false =>
      have hv3 := hv2 rfl
      have hn5 := hz5 rfl
      subst hn5
      clear hz5 hv2 hx6 hf6 he5
      go_wp2_with fail
      go_ret
      exact ⟨rfl, hB6⟩
end
end Go.Proofs.Ytkahndjflhgccaa
