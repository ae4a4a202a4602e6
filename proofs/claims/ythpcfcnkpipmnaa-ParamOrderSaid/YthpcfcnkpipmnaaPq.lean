/-
  The document's own Decode of params (narthexref6): what it says is decodeS.
-/
import Derived.Test.YthpcfcnkpipmnaaPd
import Derived.Test.YthpcfcnkpipmnaaRefGet
import Derived.Deep.Cut
namespace Go.Proofs.Ythpcfcnkpipmnaa
set_option linter.unusedVariables false
set_option linter.unusedSimpArgs false
open Go.RowKit Go.ChangeShapes Go.WideShapes Go.Deep
def caL (t : TK) : List Value := [.bool t.z, .bool t.i, .bool false, .bool false, .bool t.d, .bool t.s, .bool false, .bool false, .bool t.m]
theorem varN_cases (bs : List Int) (hb : Byt bs) : ((getS bs).2 = 0 ∧ varR (bs, false) = 0 ∧ varN (bs, false) = ([], true)) ∨ (1 ≤ (getS bs).2 ∧ (getS bs).2 ≤ bs.length ∧ varR (bs, false) = (getS bs).1 ∧ varN (bs, false) = (bs.drop (getS bs).2.toNat, false)) := by
  rcases getS_cases bs hb with ⟨h, _⟩ | ⟨h1, h2, h3, _, _⟩
  · left; refine ⟨h, ?_, ?_⟩ <;> simp [varR, varN, h]
  · right; refine ⟨h1, h3, ?_, ?_⟩
    · unfold varR; rw [if_neg (by show ¬ (getS bs).2 = 0; omega)]
    · unfold varN; rw [if_neg (by show ¬ (getS bs).2 = 0; omega)]; unfold takeN; rw [if_pos ⟨by show 0 ≤ (getS bs).2; omega, h3⟩]
theorem numOk_yes (bs : List Int) (hb : Byt bs) (h1 : (getS bs).2 = bs.length) (h2 : (getS bs).2 ≠ 0) : numOk bs = true ∧ numV bs = (getS bs).1 := by
  rcases varN_cases bs hb with ⟨h, _, _⟩ | ⟨h3, h4, h5, h6⟩
  · exact absurd h h2
  · unfold numOk numV
    rw [h6, h5]
    refine ⟨?_, rfl⟩
    simp only [Bool.not_false, Bool.true_and, beq_iff_eq, List.length_drop]
    omega
theorem numOk_no (bs : List Int) (hb : Byt bs) (h : (getS bs).2 ≠ bs.length ∨ (getS bs).2 = 0) : numOk bs = false := by
  rcases varN_cases bs hb with ⟨h1, _, h2⟩ | ⟨h3, h4, h5, h6⟩
  · unfold numOk; rw [h2]; rfl
  · unfold numOk
    rw [h6]
    simp only [Bool.not_false, Bool.true_and, beq_eq_false_iff_ne, List.length_drop]
    omega
def RdecPost (bs : List Int) (w : World) (e : Ending) (w' : World) : Prop :=
  (match decodeS bs with
  | none => e = .returned (.tuple #[pmV .zero, .bool false])
  | some p => e = .returned (.tuple #[pmV p, .bool true])) ∧ Below w.heap.size w w'
theorem RdecPost.no {bs : List Int} {w w' : World} (h : decodeS bs = none) (hb : Below w.heap.size w w') : RdecPost bs w (.returned (.tuple #[pmV .zero, .bool false])) w' := by
  unfold RdecPost; rw [h]; exact ⟨rfl, hb⟩
theorem RdecPost.yes {bs : List Int} {w w' : World} {p : PN} (h : decodeS bs = some p) (hb : Below w.heap.size w w') : RdecPost bs w (.returned (.tuple #[pmV p, .bool true])) w' := by
  unfold RdecPost; rw [h]; exact ⟨rfl, hb⟩
structure RdecL (w : World) (tot : Option TK) (gk : Nat) (wr : World) (s : St) (t : TK) : Prop where
  rd : Rdr wr (w.heap.size + 1) 70 (fun b => b < w.heap.size) s
  a2 : At wr w.heap.size 26 (pmL .zero)
  a5 : At wr (w.heap.size + 2) 26 (pmL t.p)
  a6 : At wr (w.heap.size + 3) 60 (caL t)
  bl : Below w.heap.size w wr
  eq : tot = if s.2 then none else decP gk s t
  le : s.1.length ≤ gk
theorem splice_pm (p : PN) (tx : List Int) (h8 : tx.length = 8) : splice (pmL p) 4 ((tx.take 8).map (Value.int .u8)) = pmL ⟨p.i, p.d, p.s, p.m, N8.of tx⟩ := by
  match tx, h8 with
  | [a0, a1, a2, a3, a4, a5, a6, a7], _ => rfl
theorem Rdr.bad_nil {w : World} {p : Nat} {T : TypeId} {P : Nat → Prop} {s : St} (h : Rdr w p T P s) : s.2 = true → s.1 = [] := by
  obtain ⟨A, n, c, h1, h2, h3, h4, h5, h6⟩ := h; exact h6
set_option maxRecDepth 100000 in
set_option maxHeartbeats 4000000 in
theorem rpdec_any (A : Option Addr) (n c : Nat) (bs : List Int) (w : World) (hr : Rd w w.heap.size A n bs) (hn : n ≤ 1000000) (hnc : n ≤ c) (hcm : c ≤ maxLen) (hA : A = none → c = 0) :
    Calls Try.prog 21 #[.slice A n c] w (RdecPost bs w) := by
  have hlen := hr.1
  have hby := hr.2.1
  have hB4 : Below w.heap.size w ((((w.alloc (.cells (pmL .zero).toArray 26)).alloc (.cells ([.slice A n c, .bool false] : List Value).toArray 70)).alloc (.cells (pmL .zero).toArray 26)).alloc (.cells (caL .zero).toArray 60)) := ((((Below.refl _ _).alloc (Nat.le_refl _) _).alloc (by simp) _).alloc (by simp; omega) _).alloc (by simp; omega) _
  have hA2 : At ((((w.alloc (.cells (pmL .zero).toArray 26)).alloc (.cells ([.slice A n c, .bool false] : List Value).toArray 70)).alloc (.cells (pmL .zero).toArray 26)).alloc (.cells (caL .zero).toArray 60)) w.heap.size 26 (pmL .zero) := (((At.new w _ _).alloc _).alloc _).alloc _
  have hR4 : At ((((w.alloc (.cells (pmL .zero).toArray 26)).alloc (.cells ([.slice A n c, .bool false] : List Value).toArray 70)).alloc (.cells (pmL .zero).toArray 26)).alloc (.cells (caL .zero).toArray 60)) (w.heap.size + 1) 70 [.slice A n c, .bool false] := ((At.new_ _ _ _ (by simp)).alloc _).alloc _
  have hA5 : At ((((w.alloc (.cells (pmL .zero).toArray 26)).alloc (.cells ([.slice A n c, .bool false] : List Value).toArray 70)).alloc (.cells (pmL .zero).toArray 26)).alloc (.cells (caL .zero).toArray 60)) (w.heap.size + 2) 26 (pmL .zero) := (At.new_ _ _ _ (by simp)).alloc _
  have hA6 : At ((((w.alloc (.cells (pmL .zero).toArray 26)).alloc (.cells ([.slice A n c, .bool false] : List Value).toArray 70)).alloc (.cells (pmL .zero).toArray 26)).alloc (.cells (caL .zero).toArray 60)) (w.heap.size + 3) 60 (caL .zero) := At.new_ _ _ _ (by simp)
  have hrd : Rdr ((((w.alloc (.cells (pmL .zero).toArray 26)).alloc (.cells ([.slice A n c, .bool false] : List Value).toArray 70)).alloc (.cells (pmL .zero).toArray 26)).alloc (.cells (caL .zero).toArray 60)) (w.heap.size + 1) 70 (fun b => b < w.heap.size) (bs, false) :=
    ⟨A, n, c, hR4, hnc, hcm, hA, (RdP.of_rd hr (Nat.le_refl _)).kept (Kept.of_below hB4 (fun _ => False)) (fun _ _ h => h), fun h => by cases h⟩
  obtain ⟨tot, htot⟩ : ∃ x, decP bs.length (bs, false) .zero = x := ⟨_, rfl⟩
  have HD := Lib.hid (show decodeS bs = finT tot by unfold decodeS; rw [htot])
  obtain ⟨G, hG⟩ : ∃ x, bs.length = x := ⟨_, rfl⟩
  have hGn : G ≤ n := by omega
  rw [hG] at htot
  have HI : Hid (RdecL w tot G ((((w.alloc (.cells (pmL .zero).toArray 26)).alloc (.cells ([.slice A n c, .bool false] : List Value).toArray 70)).alloc (.cells (pmL .zero).toArray 26)).alloc (.cells (caL .zero).toArray 60)) (bs, false) .zero) := Lib.hid ⟨hrd, hA2, hA5, hA6, hB4, htot.symm, by rw [← hG]; exact Nat.le_refl _⟩
  clear hr hlen hB4 hA2 hR4 hA5 hA6 hrd htot hG
  go_enter Try.func21, Try.ntmps21
  go_wp2_with fail
  go_loopg [7, 8, 9, 10] G (fun gk u7 u8 u9 u10 wr => ∃ (s : St) (t : TK), gk ≤ G ∧ Hid (RdecL w tot gk wr s t ∧ Byt s.1))
  case atStart => exact ⟨_, _, Nat.le_refl _, Lib.hid ⟨HI.out, hby⟩⟩
  case round =>
    clear HI
    obtain ⟨s, t, hgk, hat⟩ := hrel
    have hsn : s.1.length ≤ 1000000 := by have := hat.out.1.le; omega
    obtain ⟨rA, rn, rc, rc0, rnl, _, _, rc1⟩ := hat.out.1.rd.cells_
    have h5 := hat.out.1.a5
    have h6 := hat.out.1.a6
    have h2 := hat.out.1.a2
    have hz5 := h5.lt
    have hz6 := h6.lt
    rcases Nat.eq_zero_or_pos s.1.length with hz | hz
    · have hnil : s.1 = [] := List.eq_nil_of_length_eq_zero hz
      obtain rfl : rn = 0 := by omega
      have htt : tot = if s.2 then none else some t := by
        rw [hat.out.1.eq]
        cases gk <;> (unfold decP; rw [if_pos hnil])
      rw [htt] at HD
      have HB := Lib.hid hat.out.1.bl
      clear htt hnil hat rnl hz
      have c12 := h6.cell 0
      rw [show (caL t)[0]? = some (.bool t.z) from rfl] at c12
      obtain ⟨bd, hbd⟩ : ∃ x, s.2 = x := ⟨_, rfl⟩
      rw [hbd] at HD rc1
      clear hbd
      cases bd with
      | true =>
        have HN := Lib.hid (show decodeS bs = none by rw [HD.out]; rfl)
        clear HD
        go_wp2_with (first | ((with_reducible refine at_stp ?_); refine st_pm _ _ (pmL .zero) (by rfl) (by rfl) h2 (by rfl) (by rfl) (by rfl) ?_; intro w9 hA9 hk9) | fail)
        refine bodyPost_ret (results_cell_tmp 2 3 26 (by rfl) _ 26 _ _ _ (by rfl) (by rfl) hA9 Try.underlying26 rfl pm_info) rfl ?_
        exact RdecPost.no HN.out (hk9.below HB.out (by omega) (fun j hj => by omega))
      | false =>
        cases hcz : t.z with
        | false =>
          rw [hcz] at c12
          have HN := Lib.hid (show decodeS bs = none by rw [HD.out, if_neg (by simp), finT_some, hcz]; rfl)
          clear HD
          go_wp2_with (first | ((with_reducible refine at_stp ?_); refine st_pm _ _ (pmL .zero) (by rfl) (by rfl) h2 (by rfl) (by rfl) (by rfl) ?_; intro w9 hA9 hk9) | fail)
          refine bodyPost_ret (results_cell_tmp 2 3 26 (by rfl) _ 26 _ _ _ (by rfl) (by rfl) hA9 Try.underlying26 rfl pm_info) rfl ?_
          exact RdecPost.no HN.out (hk9.below HB.out (by omega) (fun j hj => by omega))
        | true =>
          rw [hcz] at c12
          have hrt := rpright_any t.p
          have hF : decodeS bs = if prightB t.p then some t.p else none := by rw [HD.out, if_neg (by simp), finT_some, hcz, Bool.true_and]
          obtain ⟨L, hL⟩ : ∃ L, pmL t.p = L := ⟨_, rfl⟩
          have hLl : L.length = 12 := by rw [← hL]; rfl
          have hLo : L.all (·.oneCell') = true := by rw [← hL]; rfl
          have hLv : pmV t.p = .agg L.toArray := by rw [← hL]; rfl
          rw [hLv] at hrt
          rw [hL] at h5
          have HLl := Lib.hid hLl
          have HLo := Lib.hid hLo
          have HLv := Lib.hid hLv
          obtain ⟨rb, hrb⟩ : ∃ x, prightB t.p = x := ⟨_, rfl⟩
          rw [hrb] at hrt hF
          have HF := Lib.hid hF
          clear HD hL hLl hLo hLv hrb hF
          cases rb with
          | false =>
            go_wp2_with (first | ((with_reducible refine at_ldp ?_); refine ld_pm_g (by rfl) (w.heap.size + 2) 0 L (by rfl) h5.rangeAt HLl.out ?_) | fail)
            refine (hrt _).mono ?_
            rintro e w3 ⟨rfl, hb3⟩
            have h2 := h2.below hb3 h2.lt
            have hB3 := HB.out.trans (hb3.mono HB.out.size)
            have hz3 := hb3.size
            have HN := HF
            go_wp2_with (first | ((with_reducible refine at_stp ?_); refine st_pm _ _ (pmL .zero) (by rfl) (by rfl) h2 (by rfl) (by rfl) (by rfl) ?_; intro w9 hA9 hk9) | fail)
            refine bodyPost_ret (results_cell_tmp 2 3 26 (by rfl) _ 26 _ _ _ (by rfl) (by rfl) hA9 Try.underlying26 rfl pm_info) rfl ?_
            exact RdecPost.no HN.out (hk9.below hB3 (by omega) (fun j hj => by omega))
          | true =>
            go_wp2_with (first | ((with_reducible refine at_ldp ?_); refine ld_pm_g (by rfl) (w.heap.size + 2) 0 L (by rfl) h5.rangeAt HLl.out ?_) | fail)
            refine (hrt _).mono ?_
            rintro e w3 ⟨rfl, hb3⟩
            have h2' := h2.below hb3 h2.lt
            have h5' := h5.below hb3 h5.lt
            have hB3 := HB.out.trans (hb3.mono HB.out.size)
            have hz3 := hb3.size
            go_wp2_with (first | ((with_reducible refine at_ldp ?_); refine ld_pm_g (by rfl) (w.heap.size + 2) 0 L (by rfl) h5'.rangeAt HLl.out ?_) | ((with_reducible refine at_stp ?_); refine st_pm _ _ L (by rfl) (by rfl) h2' (by rfl) HLl.out HLo.out ?_; intro w9 hA9 hk9) | fail)
            refine bodyPost_ret (results_cell_tmp 2 3 26 (by rfl) _ 26 _ _ _ (by rfl) (by rfl) hA9 Try.underlying26 rfl (by rw [HLl.out]; exact pm_info)) rfl ?_
            have hfin := RdecPost.yes HF.out (hk9.below hB3 (by omega) (fun j hj => by omega))
            rw [HLv.out] at hfin
            exact hfin
    · have hne : s.1 ≠ [] := by intro h; rw [h] at hz; simp at hz
      have hsb : s.2 = false := by
        cases h : s.2 with
        | false => rfl
        | true => exact absurd (hat.out.1.rd.bad_nil h) hne
      rw [hsb] at rc1
      have HLN := Lib.hid rnl
      have hzz : (0 : Int) < rn := by omega
      obtain ⟨gk', rfl⟩ : ∃ g', gk = g' + 1 := ⟨gk - 1, by have := hat.out.1.le; omega⟩
      have heq := hat.out.1.eq
      rw [hsb, if_neg (by simp)] at heq
      unfold decP at heq
      rw [if_neg hne] at heq
      have hlt := dec_lt s hat.out.2 hne
      have hle := hat.out.1.le
      have hvl : (varN s).1.length ≤ 1000000 := by have := varN_le s; omega
      have hbl := hat.out.1.bl
      have hrd := hat.out.1.rd
      have hid0 := (varR_bd s hat.out.2).1
      clear hat rnl
      go_wp2_with fail
      refine (rvar_any (w.heap.size + 1) _ _ s _ hrd (fun b hb => by omega)).mono ?_
      rintro e w3 ⟨rfl, hr3, hk3⟩
      have h53 := h5.kept hk3 (by omega)
      have h63 := h6.kept hk3 (by omega)
      have h23 := h2.kept hk3 (by omega)
      have hb3 := hk3.below hbl (by have := hbl.size; omega) (fun j hj => by omega)
      clear hrd h5 h6 h2 hbl hk3 rc0 rc1
      go_wp2_with fail
      refine (rtext_any (w.heap.size + 1) _ _ (varN s) w3 hr3 (fun b hb => by omega) (by omega)).mono ?_
      rintro e w4 ⟨v4, rfl, hown, hr4, hk4⟩
      have h5 := h53.kept hk4 (by omega)
      have h6 := h63.kept hk4 (by omega)
      have h2 := h23.kept hk4 (by omega)
      have hb4 := hk4.below hb3 (by have := hb3.size; omega) (fun j hj => by omega)
      have hz3 := h63.lt
      have hz4 := hk4.size
      obtain ⟨A4, c4, rfl, hc4, hm4, _⟩ := hown.open_
      have hP4 : RdP w4 (fun b => w.heap.size + 3 < b) A4 (textR (varN s)).length (textR (varN s)) := (hown.rdP rfl).mono (fun b _ hb => by have := (hown.block_lt b hb).1; omega)
      have hl4 : (textR (varN s)).length ≤ 1000000 := by have := takeR_le (varN (varN s)) (varR (varN s)); have := varN_le (varN s); unfold textR; omega
      clear hr3 h53 h63 h23 hb3 hk4 hown
      obtain ⟨s', hs'⟩ : ∃ x, textN (varN s) = x := ⟨_, rfl⟩
      obtain ⟨tx, htx⟩ : ∃ x, textR (varN s) = x := ⟨_, rfl⟩
      obtain ⟨id, hid⟩ : ∃ x, varR s = x := ⟨_, rfl⟩
      have hby4 : Byt s'.1 := by rw [← hs']; exact hr4.byt
      rw [hs'] at hr4 heq hlt
      rw [htx] at heq hP4 hl4 hc4 ⊢
      rw [hid] at heq hid0 ⊢
      have HEQ := Lib.hid heq
      have HB4 := Lib.hid hb4
      have HBY := Lib.hid hby4
      have hbtx := hP4.byt
      obtain ⟨_, _, _, _, _, _, _, rb1⟩ := hr4.cells_
      have hle' : s'.2 = false → s'.1.length ≤ gk' := fun h => by have := hlt h; omega
      clear hs' htx hid heq hb4 hby4 hlt hle hne hzz HLN
      have hres : ∀ t', takeS t id tx = some t' → tot = if s'.2 then none else decP gk' s' t' := by
        intro t' h
        rw [HEQ.out, h]
      have hno : takeS t id tx = none ∨ s'.2 = true → decodeS bs = none := by
        intro h
        rw [HD.out, HEQ.out]
        rcases h with h | h
        · rw [h]; split <;> rfl
        · rw [if_pos h]; rfl
      have HRES := Lib.hid hres
      have HNO := Lib.hid hno
      have hgl : s'.1.length ≤ gk' := by
        cases h : s'.2 with
        | false => exact hle' h
        | true => rw [hr4.bad_nil h]; exact Nat.zero_le _
      clear hres hno HEQ HD hle'
      obtain ⟨sb, hsb'⟩ : ∃ x, s'.2 = x := ⟨_, rfl⟩
      rw [hsb'] at rb1
      have HSB := Lib.hid hsb'
      clear hsb'
      by_cases hi1 : id = 1
      · subst hi1
        have hS : takeS t 1 tx = if !t.i && numOk tx then some ⟨⟨numV tx, t.p.d, t.p.s, t.p.m, t.p.c⟩, t.z, true, t.d, t.s, t.m⟩ else none := rfl
        go_upto_region 8 with fail
        cases sb with
        | true =>
          have HN := Lib.hid (HNO.out (.inr HSB.out))
          clear HNO HRES hS
          go_wp2_with (first | ((with_reducible refine at_stp ?_); refine st_pm _ _ (pmL .zero) (by rfl) (by rfl) h2 (by rfl) (by rfl) (by rfl) ?_; intro w9 hA9 hk9) | fail)
          refine bodyPost_ret (results_cell_tmp 2 3 26 (by rfl) _ 26 _ _ _ (by rfl) (by rfl) hA9 Try.underlying26 rfl pm_info) rfl ?_
          exact RdecPost.no HN.out (hk9.below HB4.out (by omega) (fun j hj => by omega))
        | false =>
          have q1 := h6.cell 1
          rw [show (caL t)[1]? = some (.bool t.i) from rfl] at q1
          cases hc : t.i with
          | true =>
            rw [hc] at q1 hS
            have HN := Lib.hid (HNO.out (.inl hS))
            clear HNO HRES hS
            go_wp2_with (first | ((with_reducible refine at_stp ?_); refine st_pm _ _ (pmL .zero) (by rfl) (by rfl) h2 (by rfl) (by rfl) (by rfl) ?_; intro w9 hA9 hk9) | fail)
            refine bodyPost_ret (results_cell_tmp 2 3 26 (by rfl) _ 26 _ _ _ (by rfl) (by rfl) hA9 Try.underlying26 rfl pm_info) rfl ?_
            exact RdecPost.no HN.out (hk9.below HB4.out (by omega) (fun j hj => by omega))
          | false =>
            rw [hc] at q1 hS
            have qf := h6.frozen 1
            have g6 := h6.set 1 (.bool true)
            have gk6 := (Kept.refl (· = w.heap.size + 3) w4).setAt 1 (.bool true)
            obtain ⟨w6, hw6⟩ : ∃ x, w4.setCell ⟨w.heap.size + 3, 1, none⟩ (.bool true) = x := ⟨_, rfl⟩
            rw [hw6] at g6 gk6
            have m5 := h5.kept gk6 (by omega)
            have m2 := h2.kept gk6 (by omega)
            have mr := hr4.kept gk6 (by omega) (fun b hb => by omega)
            have mP := hP4.kept gk6 (fun b hb => by omega)
            have mB := gk6.below HB4.out (by have := HB4.out.size; omega) (fun j hj => by omega)
            have hz6' := g6.lt
            clear h5 h6 h2 hr4 hP4 gk6 HB4
            have h2 := m2
            have hget := rget_any A4 _ c4 tx w6 _ mP.1 hc4 hm4
            obtain ⟨gx, hgx⟩ : ∃ x, (getS tx).1 = x := ⟨_, rfl⟩
            obtain ⟨gz, hgz⟩ : ∃ x, (getS tx).2 = x := ⟨_, rfl⟩
            rw [hgx, hgz] at hget
            have HGX := Lib.hid hgx
            have HGZ := Lib.hid hgz
            have HS := Lib.hid hS
            clear hgx hgz hS
            go_wp2_with fail
            refine hget.mono ?_
            rintro e w8 ⟨rfl, rfl⟩
            go_upto_region 16 with fail
            by_cases hok : gz = tx.length ∧ gz ≠ 0
            · obtain ⟨rfl, ho2⟩ := hok
              obtain ⟨hk1, hk2⟩ := numOk_yes tx hbtx HGZ.out (by rw [HGZ.out]; exact ho2)
              rw [HGX.out] at hk2
              have hS := HS.out
              rw [hk1, hk2] at hS
              have z2 : ((tx.length : Int) == 0) = false := by simpa using ho2
              have p5 := m5.cell 0
              have pf := m5.frozen 0
              have g5 := m5.set 0 (.int .u64 gx)
              have gk5 := (Kept.refl (· = w.heap.size + 2) w6).setAt 0 (.int .u64 gx)
              obtain ⟨w7, hw7⟩ : ∃ x, w6.setCell ⟨w.heap.size + 2, 0, none⟩ (.int .u64 gx) = x := ⟨_, rfl⟩
              rw [hw7] at g5 gk5
              have HRS := HRES.out _ hS
              rw [HSB.out, if_neg (by simp)] at HRS
              have HNX : Hid (RdecL w tot gk' w7 s' ⟨⟨gx, t.p.d, t.p.s, t.p.m, t.p.c⟩, t.z, true, t.d, t.s, t.m⟩) := Lib.hid ⟨mr.kept gk5 (by omega) (fun b hb => by omega), m2.kept gk5 (by omega), g5, g6.kept gk5 (by omega), gk5.below mB (by have := mB.size; omega) (fun j hj => by omega), by rw [HSB.out, if_neg (by simp)]; exact HRS, hgl⟩
              clear HNO HRES HRS hS hk1 hk2 gk5 g5 m2 mr mB g6 h2
              go_wp2_with fail
              go_roundg gk'
              case measure => omega
              case rel => exact ⟨_, _, by omega, Lib.hid ⟨HNX.out, HBY.out⟩⟩
            · have hS' : takeS t 1 tx = none := by rw [HS.out, numOk_no tx hbtx (by rw [HGZ.out]; by_cases h : gz = tx.length; exact .inr (by by_cases h0 : gz = 0; exact h0; exact absurd ⟨h, h0⟩ hok); exact .inl h)]; rfl
              have HN := Lib.hid (HNO.out (.inl hS'))
              clear HNO HRES hS'
              by_cases ho1 : gz = tx.length
              · have ho2 : gz = 0 := by by_cases h0 : gz = 0; exact h0; exact absurd ⟨ho1, h0⟩ hok
                have ho3 : tx.length = 0 := by omega
                subst ho2
                rw [ho3]
                clear hok ho1 ho3
                go_wp2_with (first | ((with_reducible refine at_stp ?_); refine st_pm _ _ (pmL .zero) (by rfl) (by rfl) h2 (by rfl) (by rfl) (by rfl) ?_; intro w9 hA9 hk9) | fail)
                refine bodyPost_ret (results_cell_tmp 2 3 26 (by rfl) _ 26 _ _ _ (by rfl) (by rfl) hA9 Try.underlying26 rfl pm_info) rfl ?_
                exact RdecPost.no HN.out (hk9.below mB (by omega) (fun j hj => by omega))
              · have z1 : (gz == (tx.length : Int)) = false := by simpa using ho1
                clear hok
                go_wp2_with (first | ((with_reducible refine at_stp ?_); refine st_pm _ _ (pmL .zero) (by rfl) (by rfl) h2 (by rfl) (by rfl) (by rfl) ?_; intro w9 hA9 hk9) | fail)
                refine bodyPost_ret (results_cell_tmp 2 3 26 (by rfl) _ 26 _ _ _ (by rfl) (by rfl) hA9 Try.underlying26 rfl pm_info) rfl ?_
                exact RdecPost.no HN.out (hk9.below mB (by omega) (fun j hj => by omega))
      by_cases hi4 : id = 4
      · subst hi4
        have hS : takeS t 4 tx = if !t.d && numOk tx then some ⟨⟨t.p.i, numV tx, t.p.s, t.p.m, t.p.c⟩, t.z, t.i, true, t.s, t.m⟩ else none := rfl
        go_upto_region 8 with fail
        cases sb with
        | true =>
          have HN := Lib.hid (HNO.out (.inr HSB.out))
          clear HNO HRES hS
          go_wp2_with (first | ((with_reducible refine at_stp ?_); refine st_pm _ _ (pmL .zero) (by rfl) (by rfl) h2 (by rfl) (by rfl) (by rfl) ?_; intro w9 hA9 hk9) | fail)
          refine bodyPost_ret (results_cell_tmp 2 3 26 (by rfl) _ 26 _ _ _ (by rfl) (by rfl) hA9 Try.underlying26 rfl pm_info) rfl ?_
          exact RdecPost.no HN.out (hk9.below HB4.out (by omega) (fun j hj => by omega))
        | false =>
          have q4 := h6.cell 4
          rw [show (caL t)[4]? = some (.bool t.d) from rfl] at q4
          cases hc : t.d with
          | true =>
            rw [hc] at q4 hS
            have HN := Lib.hid (HNO.out (.inl hS))
            clear HNO HRES hS
            go_wp2_with (first | ((with_reducible refine at_stp ?_); refine st_pm _ _ (pmL .zero) (by rfl) (by rfl) h2 (by rfl) (by rfl) (by rfl) ?_; intro w9 hA9 hk9) | fail)
            refine bodyPost_ret (results_cell_tmp 2 3 26 (by rfl) _ 26 _ _ _ (by rfl) (by rfl) hA9 Try.underlying26 rfl pm_info) rfl ?_
            exact RdecPost.no HN.out (hk9.below HB4.out (by omega) (fun j hj => by omega))
          | false =>
            rw [hc] at q4 hS
            have qf := h6.frozen 4
            have g6 := h6.set 4 (.bool true)
            have gk6 := (Kept.refl (· = w.heap.size + 3) w4).setAt 4 (.bool true)
            obtain ⟨w6, hw6⟩ : ∃ x, w4.setCell ⟨w.heap.size + 3, 4, none⟩ (.bool true) = x := ⟨_, rfl⟩
            rw [hw6] at g6 gk6
            have m5 := h5.kept gk6 (by omega)
            have m2 := h2.kept gk6 (by omega)
            have mr := hr4.kept gk6 (by omega) (fun b hb => by omega)
            have mP := hP4.kept gk6 (fun b hb => by omega)
            have mB := gk6.below HB4.out (by have := HB4.out.size; omega) (fun j hj => by omega)
            have hz6' := g6.lt
            clear h5 h6 h2 hr4 hP4 gk6 HB4
            have h2 := m2
            have hget := rget_any A4 _ c4 tx w6 _ mP.1 hc4 hm4
            obtain ⟨gx, hgx⟩ : ∃ x, (getS tx).1 = x := ⟨_, rfl⟩
            obtain ⟨gz, hgz⟩ : ∃ x, (getS tx).2 = x := ⟨_, rfl⟩
            rw [hgx, hgz] at hget
            have HGX := Lib.hid hgx
            have HGZ := Lib.hid hgz
            have HS := Lib.hid hS
            clear hgx hgz hS
            go_wp2_with fail
            refine hget.mono ?_
            rintro e w8 ⟨rfl, rfl⟩
            go_upto_region 16 with fail
            by_cases hok : gz = tx.length ∧ gz ≠ 0
            · obtain ⟨rfl, ho2⟩ := hok
              obtain ⟨hk1, hk2⟩ := numOk_yes tx hbtx HGZ.out (by rw [HGZ.out]; exact ho2)
              rw [HGX.out] at hk2
              have hS := HS.out
              rw [hk1, hk2] at hS
              have z2 : ((tx.length : Int) == 0) = false := by simpa using ho2
              have p5 := m5.cell 1
              have pf := m5.frozen 1
              have g5 := m5.set 1 (.int .u64 gx)
              have gk5 := (Kept.refl (· = w.heap.size + 2) w6).setAt 1 (.int .u64 gx)
              obtain ⟨w7, hw7⟩ : ∃ x, w6.setCell ⟨w.heap.size + 2, 1, none⟩ (.int .u64 gx) = x := ⟨_, rfl⟩
              rw [hw7] at g5 gk5
              have HRS := HRES.out _ hS
              rw [HSB.out, if_neg (by simp)] at HRS
              have HNX : Hid (RdecL w tot gk' w7 s' ⟨⟨t.p.i, gx, t.p.s, t.p.m, t.p.c⟩, t.z, t.i, true, t.s, t.m⟩) := Lib.hid ⟨mr.kept gk5 (by omega) (fun b hb => by omega), m2.kept gk5 (by omega), g5, g6.kept gk5 (by omega), gk5.below mB (by have := mB.size; omega) (fun j hj => by omega), by rw [HSB.out, if_neg (by simp)]; exact HRS, hgl⟩
              clear HNO HRES HRS hS hk1 hk2 gk5 g5 m2 mr mB g6 h2
              go_wp2_with fail
              go_roundg gk'
              case measure => omega
              case rel => exact ⟨_, _, by omega, Lib.hid ⟨HNX.out, HBY.out⟩⟩
            · have hS' : takeS t 4 tx = none := by rw [HS.out, numOk_no tx hbtx (by rw [HGZ.out]; by_cases h : gz = tx.length; exact .inr (by by_cases h0 : gz = 0; exact h0; exact absurd ⟨h, h0⟩ hok); exact .inl h)]; rfl
              have HN := Lib.hid (HNO.out (.inl hS'))
              clear HNO HRES hS'
              by_cases ho1 : gz = tx.length
              · have ho2 : gz = 0 := by by_cases h0 : gz = 0; exact h0; exact absurd ⟨ho1, h0⟩ hok
                have ho3 : tx.length = 0 := by omega
                subst ho2
                rw [ho3]
                clear hok ho1 ho3
                go_wp2_with (first | ((with_reducible refine at_stp ?_); refine st_pm _ _ (pmL .zero) (by rfl) (by rfl) h2 (by rfl) (by rfl) (by rfl) ?_; intro w9 hA9 hk9) | fail)
                refine bodyPost_ret (results_cell_tmp 2 3 26 (by rfl) _ 26 _ _ _ (by rfl) (by rfl) hA9 Try.underlying26 rfl pm_info) rfl ?_
                exact RdecPost.no HN.out (hk9.below mB (by omega) (fun j hj => by omega))
              · have z1 : (gz == (tx.length : Int)) = false := by simpa using ho1
                clear hok
                go_wp2_with (first | ((with_reducible refine at_stp ?_); refine st_pm _ _ (pmL .zero) (by rfl) (by rfl) h2 (by rfl) (by rfl) (by rfl) ?_; intro w9 hA9 hk9) | fail)
                refine bodyPost_ret (results_cell_tmp 2 3 26 (by rfl) _ 26 _ _ _ (by rfl) (by rfl) hA9 Try.underlying26 rfl pm_info) rfl ?_
                exact RdecPost.no HN.out (hk9.below mB (by omega) (fun j hj => by omega))
      by_cases hi5 : id = 5
      · subst hi5
        have hS : takeS t 5 tx = if !t.s && numOk tx then some ⟨⟨t.p.i, t.p.d, numV tx, t.p.m, t.p.c⟩, t.z, t.i, t.d, true, t.m⟩ else none := rfl
        go_upto_region 8 with fail
        cases sb with
        | true =>
          have HN := Lib.hid (HNO.out (.inr HSB.out))
          clear HNO HRES hS
          go_wp2_with (first | ((with_reducible refine at_stp ?_); refine st_pm _ _ (pmL .zero) (by rfl) (by rfl) h2 (by rfl) (by rfl) (by rfl) ?_; intro w9 hA9 hk9) | fail)
          refine bodyPost_ret (results_cell_tmp 2 3 26 (by rfl) _ 26 _ _ _ (by rfl) (by rfl) hA9 Try.underlying26 rfl pm_info) rfl ?_
          exact RdecPost.no HN.out (hk9.below HB4.out (by omega) (fun j hj => by omega))
        | false =>
          have q5 := h6.cell 5
          rw [show (caL t)[5]? = some (.bool t.s) from rfl] at q5
          cases hc : t.s with
          | true =>
            rw [hc] at q5 hS
            have HN := Lib.hid (HNO.out (.inl hS))
            clear HNO HRES hS
            go_wp2_with (first | ((with_reducible refine at_stp ?_); refine st_pm _ _ (pmL .zero) (by rfl) (by rfl) h2 (by rfl) (by rfl) (by rfl) ?_; intro w9 hA9 hk9) | fail)
            refine bodyPost_ret (results_cell_tmp 2 3 26 (by rfl) _ 26 _ _ _ (by rfl) (by rfl) hA9 Try.underlying26 rfl pm_info) rfl ?_
            exact RdecPost.no HN.out (hk9.below HB4.out (by omega) (fun j hj => by omega))
          | false =>
            rw [hc] at q5 hS
            have qf := h6.frozen 5
            have g6 := h6.set 5 (.bool true)
            have gk6 := (Kept.refl (· = w.heap.size + 3) w4).setAt 5 (.bool true)
            obtain ⟨w6, hw6⟩ : ∃ x, w4.setCell ⟨w.heap.size + 3, 5, none⟩ (.bool true) = x := ⟨_, rfl⟩
            rw [hw6] at g6 gk6
            have m5 := h5.kept gk6 (by omega)
            have m2 := h2.kept gk6 (by omega)
            have mr := hr4.kept gk6 (by omega) (fun b hb => by omega)
            have mP := hP4.kept gk6 (fun b hb => by omega)
            have mB := gk6.below HB4.out (by have := HB4.out.size; omega) (fun j hj => by omega)
            have hz6' := g6.lt
            clear h5 h6 h2 hr4 hP4 gk6 HB4
            have h2 := m2
            have hget := rget_any A4 _ c4 tx w6 _ mP.1 hc4 hm4
            obtain ⟨gx, hgx⟩ : ∃ x, (getS tx).1 = x := ⟨_, rfl⟩
            obtain ⟨gz, hgz⟩ : ∃ x, (getS tx).2 = x := ⟨_, rfl⟩
            rw [hgx, hgz] at hget
            have HGX := Lib.hid hgx
            have HGZ := Lib.hid hgz
            have HS := Lib.hid hS
            clear hgx hgz hS
            go_wp2_with fail
            refine hget.mono ?_
            rintro e w8 ⟨rfl, rfl⟩
            go_upto_region 16 with fail
            by_cases hok : gz = tx.length ∧ gz ≠ 0
            · obtain ⟨rfl, ho2⟩ := hok
              obtain ⟨hk1, hk2⟩ := numOk_yes tx hbtx HGZ.out (by rw [HGZ.out]; exact ho2)
              rw [HGX.out] at hk2
              have hS := HS.out
              rw [hk1, hk2] at hS
              have z2 : ((tx.length : Int) == 0) = false := by simpa using ho2
              have p5 := m5.cell 2
              have pf := m5.frozen 2
              have g5 := m5.set 2 (.int .u64 gx)
              have gk5 := (Kept.refl (· = w.heap.size + 2) w6).setAt 2 (.int .u64 gx)
              obtain ⟨w7, hw7⟩ : ∃ x, w6.setCell ⟨w.heap.size + 2, 2, none⟩ (.int .u64 gx) = x := ⟨_, rfl⟩
              rw [hw7] at g5 gk5
              have HRS := HRES.out _ hS
              rw [HSB.out, if_neg (by simp)] at HRS
              have HNX : Hid (RdecL w tot gk' w7 s' ⟨⟨t.p.i, t.p.d, gx, t.p.m, t.p.c⟩, t.z, t.i, t.d, true, t.m⟩) := Lib.hid ⟨mr.kept gk5 (by omega) (fun b hb => by omega), m2.kept gk5 (by omega), g5, g6.kept gk5 (by omega), gk5.below mB (by have := mB.size; omega) (fun j hj => by omega), by rw [HSB.out, if_neg (by simp)]; exact HRS, hgl⟩
              clear HNO HRES HRS hS hk1 hk2 gk5 g5 m2 mr mB g6 h2
              go_wp2_with fail
              go_roundg gk'
              case measure => omega
              case rel => exact ⟨_, _, by omega, Lib.hid ⟨HNX.out, HBY.out⟩⟩
            · have hS' : takeS t 5 tx = none := by rw [HS.out, numOk_no tx hbtx (by rw [HGZ.out]; by_cases h : gz = tx.length; exact .inr (by by_cases h0 : gz = 0; exact h0; exact absurd ⟨h, h0⟩ hok); exact .inl h)]; rfl
              have HN := Lib.hid (HNO.out (.inl hS'))
              clear HNO HRES hS'
              by_cases ho1 : gz = tx.length
              · have ho2 : gz = 0 := by by_cases h0 : gz = 0; exact h0; exact absurd ⟨ho1, h0⟩ hok
                have ho3 : tx.length = 0 := by omega
                subst ho2
                rw [ho3]
                clear hok ho1 ho3
                go_wp2_with (first | ((with_reducible refine at_stp ?_); refine st_pm _ _ (pmL .zero) (by rfl) (by rfl) h2 (by rfl) (by rfl) (by rfl) ?_; intro w9 hA9 hk9) | fail)
                refine bodyPost_ret (results_cell_tmp 2 3 26 (by rfl) _ 26 _ _ _ (by rfl) (by rfl) hA9 Try.underlying26 rfl pm_info) rfl ?_
                exact RdecPost.no HN.out (hk9.below mB (by omega) (fun j hj => by omega))
              · have z1 : (gz == (tx.length : Int)) = false := by simpa using ho1
                clear hok
                go_wp2_with (first | ((with_reducible refine at_stp ?_); refine st_pm _ _ (pmL .zero) (by rfl) (by rfl) h2 (by rfl) (by rfl) (by rfl) ?_; intro w9 hA9 hk9) | fail)
                refine bodyPost_ret (results_cell_tmp 2 3 26 (by rfl) _ 26 _ _ _ (by rfl) (by rfl) hA9 Try.underlying26 rfl pm_info) rfl ?_
                exact RdecPost.no HN.out (hk9.below mB (by omega) (fun j hj => by omega))
      by_cases hi8 : id = 8
      · subst hi8
        have hS : takeS t 8 tx = if !t.m && numOk tx then some ⟨⟨t.p.i, t.p.d, t.p.s, numV tx, t.p.c⟩, t.z, t.i, t.d, t.s, true⟩ else none := rfl
        go_upto_region 8 with fail
        cases sb with
        | true =>
          have HN := Lib.hid (HNO.out (.inr HSB.out))
          clear HNO HRES hS
          go_wp2_with (first | ((with_reducible refine at_stp ?_); refine st_pm _ _ (pmL .zero) (by rfl) (by rfl) h2 (by rfl) (by rfl) (by rfl) ?_; intro w9 hA9 hk9) | fail)
          refine bodyPost_ret (results_cell_tmp 2 3 26 (by rfl) _ 26 _ _ _ (by rfl) (by rfl) hA9 Try.underlying26 rfl pm_info) rfl ?_
          exact RdecPost.no HN.out (hk9.below HB4.out (by omega) (fun j hj => by omega))
        | false =>
          have q8 := h6.cell 8
          rw [show (caL t)[8]? = some (.bool t.m) from rfl] at q8
          cases hc : t.m with
          | true =>
            rw [hc] at q8 hS
            have HN := Lib.hid (HNO.out (.inl hS))
            clear HNO HRES hS
            go_wp2_with (first | ((with_reducible refine at_stp ?_); refine st_pm _ _ (pmL .zero) (by rfl) (by rfl) h2 (by rfl) (by rfl) (by rfl) ?_; intro w9 hA9 hk9) | fail)
            refine bodyPost_ret (results_cell_tmp 2 3 26 (by rfl) _ 26 _ _ _ (by rfl) (by rfl) hA9 Try.underlying26 rfl pm_info) rfl ?_
            exact RdecPost.no HN.out (hk9.below HB4.out (by omega) (fun j hj => by omega))
          | false =>
            rw [hc] at q8 hS
            have qf := h6.frozen 8
            have g6 := h6.set 8 (.bool true)
            have gk6 := (Kept.refl (· = w.heap.size + 3) w4).setAt 8 (.bool true)
            obtain ⟨w6, hw6⟩ : ∃ x, w4.setCell ⟨w.heap.size + 3, 8, none⟩ (.bool true) = x := ⟨_, rfl⟩
            rw [hw6] at g6 gk6
            have m5 := h5.kept gk6 (by omega)
            have m2 := h2.kept gk6 (by omega)
            have mr := hr4.kept gk6 (by omega) (fun b hb => by omega)
            have mP := hP4.kept gk6 (fun b hb => by omega)
            have mB := gk6.below HB4.out (by have := HB4.out.size; omega) (fun j hj => by omega)
            have hz6' := g6.lt
            clear h5 h6 h2 hr4 hP4 gk6 HB4
            have h2 := m2
            have hget := rget_any A4 _ c4 tx w6 _ mP.1 hc4 hm4
            obtain ⟨gx, hgx⟩ : ∃ x, (getS tx).1 = x := ⟨_, rfl⟩
            obtain ⟨gz, hgz⟩ : ∃ x, (getS tx).2 = x := ⟨_, rfl⟩
            rw [hgx, hgz] at hget
            have HGX := Lib.hid hgx
            have HGZ := Lib.hid hgz
            have HS := Lib.hid hS
            clear hgx hgz hS
            go_wp2_with fail
            refine hget.mono ?_
            rintro e w8 ⟨rfl, rfl⟩
            go_upto_region 16 with fail
            by_cases hok : gz = tx.length ∧ gz ≠ 0
            · obtain ⟨rfl, ho2⟩ := hok
              obtain ⟨hk1, hk2⟩ := numOk_yes tx hbtx HGZ.out (by rw [HGZ.out]; exact ho2)
              rw [HGX.out] at hk2
              have hS := HS.out
              rw [hk1, hk2] at hS
              have z2 : ((tx.length : Int) == 0) = false := by simpa using ho2
              have p5 := m5.cell 3
              have pf := m5.frozen 3
              have g5 := m5.set 3 (.int .u64 gx)
              have gk5 := (Kept.refl (· = w.heap.size + 2) w6).setAt 3 (.int .u64 gx)
              obtain ⟨w7, hw7⟩ : ∃ x, w6.setCell ⟨w.heap.size + 2, 3, none⟩ (.int .u64 gx) = x := ⟨_, rfl⟩
              rw [hw7] at g5 gk5
              have HRS := HRES.out _ hS
              rw [HSB.out, if_neg (by simp)] at HRS
              have HNX : Hid (RdecL w tot gk' w7 s' ⟨⟨t.p.i, t.p.d, t.p.s, gx, t.p.c⟩, t.z, t.i, t.d, t.s, true⟩) := Lib.hid ⟨mr.kept gk5 (by omega) (fun b hb => by omega), m2.kept gk5 (by omega), g5, g6.kept gk5 (by omega), gk5.below mB (by have := mB.size; omega) (fun j hj => by omega), by rw [HSB.out, if_neg (by simp)]; exact HRS, hgl⟩
              clear HNO HRES HRS hS hk1 hk2 gk5 g5 m2 mr mB g6 h2
              go_wp2_with fail
              go_roundg gk'
              case measure => omega
              case rel => exact ⟨_, _, by omega, Lib.hid ⟨HNX.out, HBY.out⟩⟩
            · have hS' : takeS t 8 tx = none := by rw [HS.out, numOk_no tx hbtx (by rw [HGZ.out]; by_cases h : gz = tx.length; exact .inr (by by_cases h0 : gz = 0; exact h0; exact absurd ⟨h, h0⟩ hok); exact .inl h)]; rfl
              have HN := Lib.hid (HNO.out (.inl hS'))
              clear HNO HRES hS'
              by_cases ho1 : gz = tx.length
              · have ho2 : gz = 0 := by by_cases h0 : gz = 0; exact h0; exact absurd ⟨ho1, h0⟩ hok
                have ho3 : tx.length = 0 := by omega
                subst ho2
                rw [ho3]
                clear hok ho1 ho3
                go_wp2_with (first | ((with_reducible refine at_stp ?_); refine st_pm _ _ (pmL .zero) (by rfl) (by rfl) h2 (by rfl) (by rfl) (by rfl) ?_; intro w9 hA9 hk9) | fail)
                refine bodyPost_ret (results_cell_tmp 2 3 26 (by rfl) _ 26 _ _ _ (by rfl) (by rfl) hA9 Try.underlying26 rfl pm_info) rfl ?_
                exact RdecPost.no HN.out (hk9.below mB (by omega) (fun j hj => by omega))
              · have z1 : (gz == (tx.length : Int)) = false := by simpa using ho1
                clear hok
                go_wp2_with (first | ((with_reducible refine at_stp ?_); refine st_pm _ _ (pmL .zero) (by rfl) (by rfl) h2 (by rfl) (by rfl) (by rfl) ?_; intro w9 hA9 hk9) | fail)
                refine bodyPost_ret (results_cell_tmp 2 3 26 (by rfl) _ 26 _ _ _ (by rfl) (by rfl) hA9 Try.underlying26 rfl pm_info) rfl ?_
                exact RdecPost.no HN.out (hk9.below mB (by omega) (fun j hj => by omega))
      by_cases hi0 : id = 0
      · subst hi0
        have hS : takeS t 0 tx = if !t.z && tx.length == 8 then some ⟨⟨t.p.i, t.p.d, t.p.s, t.p.m, N8.of tx⟩, true, t.i, t.d, t.s, t.m⟩ else none := rfl
        go_upto_region 8 with fail
        cases sb with
        | true =>
          have HN := Lib.hid (HNO.out (.inr HSB.out))
          clear HNO HRES hS
          go_wp2_with (first | ((with_reducible refine at_stp ?_); refine st_pm _ _ (pmL .zero) (by rfl) (by rfl) h2 (by rfl) (by rfl) (by rfl) ?_; intro w9 hA9 hk9) | fail)
          refine bodyPost_ret (results_cell_tmp 2 3 26 (by rfl) _ 26 _ _ _ (by rfl) (by rfl) hA9 Try.underlying26 rfl pm_info) rfl ?_
          exact RdecPost.no HN.out (hk9.below HB4.out (by omega) (fun j hj => by omega))
        | false =>
          have q0 := h6.cell 0
          rw [show (caL t)[0]? = some (.bool t.z) from rfl] at q0
          cases hc : t.z with
          | true =>
            rw [hc] at q0 hS
            have HN := Lib.hid (HNO.out (.inl hS))
            clear HNO HRES hS
            go_wp2_with (first | ((with_reducible refine at_stp ?_); refine st_pm _ _ (pmL .zero) (by rfl) (by rfl) h2 (by rfl) (by rfl) (by rfl) ?_; intro w9 hA9 hk9) | fail)
            refine bodyPost_ret (results_cell_tmp 2 3 26 (by rfl) _ 26 _ _ _ (by rfl) (by rfl) hA9 Try.underlying26 rfl pm_info) rfl ?_
            exact RdecPost.no HN.out (hk9.below HB4.out (by omega) (fun j hj => by omega))
          | false =>
            rw [hc] at q0 hS
            have qf := h6.frozen 0
            have g6 := h6.set 0 (.bool true)
            have gk6 := (Kept.refl (· = w.heap.size + 3) w4).setAt 0 (.bool true)
            obtain ⟨w6, hw6⟩ : ∃ x, w4.setCell ⟨w.heap.size + 3, 0, none⟩ (.bool true) = x := ⟨_, rfl⟩
            rw [hw6] at g6 gk6
            have m5 := h5.kept gk6 (by omega)
            have m2 := h2.kept gk6 (by omega)
            have mr := hr4.kept gk6 (by omega) (fun b hb => by omega)
            have mP := hP4.kept gk6 (fun b hb => by omega)
            have mB := gk6.below HB4.out (by have := HB4.out.size; omega) (fun j hj => by omega)
            have hz6' := g6.lt
            clear h5 h6 h2 hr4 hP4 gk6 HB4
            have h2 := m2
            have hget := rget_any A4 _ c4 tx w6 _ mP.1 hc4 hm4
            obtain ⟨gx, hgx⟩ : ∃ x, (getS tx).1 = x := ⟨_, rfl⟩
            obtain ⟨gz, hgz⟩ : ∃ x, (getS tx).2 = x := ⟨_, rfl⟩
            rw [hgx, hgz] at hget
            clear hgx hgz
            have HS := Lib.hid hS
            clear hS
            go_wp2_with fail
            refine hget.mono ?_
            rintro e w8 ⟨rfl, rfl⟩
            go_upto_region 13 with fail
            by_cases h8 : tx.length = 8
            · have hfin := splice_pm t.p tx h8
              have hS := HS.out
              rw [show (tx.length == 8) = true by simpa using h8] at hS
              have HRS := HRES.out _ hS
              rw [HSB.out, if_neg (by simp)] at HRS
              have HRS := Lib.hid HRS
              have HFIN := Lib.hid hfin
              have mP8 : Rd w6 w6.heap.size A4 8 tx := by rw [← h8]; exact mP.1
              rw [h8]
              clear HNO HRES hS hfin h8 mP
              go_wp2_with (refine wpList_copy_at rfl (.tmp 77) (.tmp 78) 29 29 rfl 5 Try.underlying29 (by kernel_rfl) (w.heap.size + 2) 4 8 8 8 c4 A4 rfl rfl (pmL t.p) 26 m5 tx _ mP8 (by rw [pmL_len]; omega) ?_; intro w7 g5 gk5)
              rw [HFIN.out] at g5
              have HNX : Hid (RdecL w tot gk' w7 s' ⟨⟨t.p.i, t.p.d, t.p.s, t.p.m, N8.of tx⟩, true, t.i, t.d, t.s, t.m⟩) := Lib.hid ⟨mr.kept gk5 (by omega) (fun b hb => by omega), m2.kept gk5 (by omega), g5, g6.kept gk5 (by omega), gk5.below mB (by have := mB.size; omega) (fun j hj => by omega), by rw [HSB.out, if_neg (by simp)]; exact HRS.out, hgl⟩
              clear gk5 g5 m2 mr mB g6 h2
              go_roundg gk'
              case measure => omega
              case rel => exact ⟨_, _, by omega, Lib.hid ⟨HNX.out, HBY.out⟩⟩
            · have z8 : ((tx.length : Int) == 8) = false := by simp; omega
              have HN := Lib.hid (HNO.out (.inl (by rw [HS.out, show (tx.length == 8) = false by simpa using h8]; rfl)))
              clear HNO HRES
              go_wp2_with (first | ((with_reducible refine at_stp ?_); refine st_pm _ _ (pmL .zero) (by rfl) (by rfl) h2 (by rfl) (by rfl) (by rfl) ?_; intro w9 hA9 hk9) | fail)
              refine bodyPost_ret (results_cell_tmp 2 3 26 (by rfl) _ 26 _ _ _ (by rfl) (by rfl) hA9 Try.underlying26 rfl pm_info) rfl ?_
              exact RdecPost.no HN.out (hk9.below mB (by omega) (fun j hj => by omega))
      have e0 : (id != 0) = true := by simpa using hi0
      have e1 : (id != 1) = true := by simpa using hi1
      have e4 : (id != 4) = true := by simpa using hi4
      have e5 : (id != 5) = true := by simpa using hi5
      have e8 : (id != 8) = true := by simpa using hi8
      have HRS := HRES.out t (by unfold takeS; rw [if_neg hi0, if_neg hi1, if_neg hi4, if_neg hi5, if_neg hi8])
      have HNX : Hid (RdecL w tot gk' w4 s' t) := Lib.hid ⟨hr4, h2, h5, h6, HB4.out, HRS, hgl⟩
      clear HRES HNO HRS h2 h5 h6 hr4 hP4
      by_cases hgt : 8 < id
      · go_wp2_with fail
        go_roundg gk'
        case measure => omega
        case rel => exact ⟨_, _, by omega, Lib.hid ⟨HNX.out, HBY.out⟩⟩
      · have hgt' : id ≤ 8 := by omega
        go_wp2_with fail
        go_roundg gk'
        case measure => omega
        case rel => exact ⟨_, _, by omega, Lib.hid ⟨HNX.out, HBY.out⟩⟩
end Go.Proofs.Ythpcfcnkpipmnaa
