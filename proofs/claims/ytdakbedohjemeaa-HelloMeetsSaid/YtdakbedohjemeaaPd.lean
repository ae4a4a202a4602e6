/-
  param.Decode, whatever bytes.
-/
import Derived.Test.YtdakbedohjemeaaMq9
import Derived.Deep.LoopGhost
namespace Go.Proofs.Ytdakbedohjemeaa
set_option linter.unusedVariables false
set_option linter.unusedSimpArgs false
open Go.RowKit Go.ChangeShapes Go.WideShapes Go.Deep
section
variable {ops : Array Oper} {rest : List Oper} {a : Act} {w : World} {Q : Exit → Act → World → Prop} {dst : Option Tmp} {x y : Operand} {t : TypeId} {pos : String} {after : Array Edge} {g : Option (Nat × Bool)}
theorem ld_pm_g (hg : Region.wanted ⟨dst, .load 26 x, t, pos, after, g⟩ (yielded ops a.tmps) = true) (p o : Nat) (l : List Value) (hx : a.eval x = .pointer (some ⟨p, o, none⟩)) (hA : w.rangeAt p o l) (hl : l.length = 12)
    (h : wpList Try.prog ops Q rest (a.put dst (.agg l.toArray)) w) : wpList Try.prog ops Q (⟨dst, .load 26 x, t, pos, after, g⟩ :: rest) a w := by
  refine wpList_step fun K hK => ?_
  rw [if_pos hg]
  exact wp_load_mid 26 x rfl p o hx l _ hA Try.underlying26 rfl (by rw [hl]; exact pm_info) (hK _ _ h)
end
/-- What the rest of the bytes says, behind what was read so far. -/
def decP : Nat → St → TK → Option TK
  | 0, s, t => if s.1 = [] then some t else none
  | k + 1, s, t => if s.1 = [] then some t else if (textN (varN s)).2 then none else match takeS t (varR s) (textR (varN s)) with
    | none => none
    | some t' => decP k (textN (varN s)) t'
def finT (o : Option TK) : Option PN := match o with
  | none => none
  | some t => if t.z && prightB t.p then some t.p else none
theorem finT_some (t : TK) : finT (some t) = if t.z && prightB t.p then some t.p else none := rfl
def decodeS (bs : List Int) : Option PN := finT (decP bs.length (bs, false) .zero)
def PdecPost (bs : List Int) (w : World) (e : Ending) (w' : World) : Prop :=
  (match decodeS bs with
  | none => e = .returned (.tuple #[pmV .zero, .int .i64 12])
  | some p => e = .returned (.tuple #[pmV p, .int .i64 0])) ∧ Below w.heap.size w w'
theorem PdecPost.no {bs : List Int} {w w' : World} (h : decodeS bs = none) (hb : Below w.heap.size w w') : PdecPost bs w (.returned (.tuple #[pmV .zero, .int .i64 12])) w' := by
  unfold PdecPost; rw [h]; exact ⟨rfl, hb⟩
theorem PdecPost.yes {bs : List Int} {w w' : World} {p : PN} (h : decodeS bs = some p) (hb : Below w.heap.size w w') : PdecPost bs w (.returned (.tuple #[pmV p, .int .i64 0])) w' := by
  unfold PdecPost; rw [h]; exact ⟨rfl, hb⟩
theorem dec_lt (s : St) (hb : Byt s.1) (h : s.1 ≠ []) (h2 : (textN (varN s)).2 = false) : (textN (varN s)).1.length < s.1.length := by
  have h1 : (textN (varN s)).1.length ≤ (varN s).1.length := Nat.le_trans (takeN_le _ _) (varN_le _)
  have h3 : (varN s).1.length < s.1.length := by
    by_cases hz : (getS s.1).2 = 0
    · exfalso
      have e : varN s = ([], true) := by unfold varN; rw [if_pos hz]
      rw [e] at h2
      have : textN ([], true) = ([], true) := by unfold textN; rw [var_spoilt.1, var_spoilt.2]; exact (spoilt 0).2
      rw [this] at h2
      cases h2
    · rcases getS_cases s.1 hb with ⟨h4, _⟩ | ⟨h4, h5, h6, _, _⟩
      · exact absurd h4 hz
      · have e : varN s = takeN s (getS s.1).2 := by unfold varN; rw [if_neg hz]
        rw [e]; unfold takeN
        rw [if_pos ⟨by omega, h6⟩]
        have : 0 < s.1.length := List.length_pos_iff.2 h
        show (s.1.drop _).length < _
        rw [List.length_drop]
        omega
  omega
structure DecL (w : World) (p g : Nat) (tot : Option TK) (gk : Nat) (wr : World) (s : St) (t : TK) : Prop where
  rd : Rdr wr p 108 (fun b => w.heap.size + 1 ≤ b ∧ b < p) s
  a2 : At wr w.heap.size 26 (pmL .zero)
  a5 : At wr g 124 (tkL t)
  bl : Below w.heap.size w wr
  eq : tot = decP gk s t
  le : s.1.length ≤ gk
  nb : s.2 = false
set_option maxRecDepth 100000 in
set_option maxHeartbeats 2000000 in
theorem pdec_any (A : Option Addr) (n c : Nat) (bs : List Int) (w : World) (hr : Rd w w.heap.size A n bs) (hn : n ≤ 1000000) (hA : A = none → c = 0) :
    Calls Try.prog 84 #[.slice A n c] w (PdecPost bs w) := by
  have HL := Lib.hid hr.1
  have hB0 : Below w.heap.size w (w.alloc (.cells (pmL .zero).toArray 26)) := (Below.refl _ _).alloc (Nat.le_refl _) _
  have hA0 : At (w.alloc (.cells (pmL .zero).toArray 26)) w.heap.size 26 (pmL .zero) := At.new w _ _
  have hR0 : Rd (w.alloc (.cells (pmL .zero).toArray 26)) (w.alloc (.cells (pmL .zero).toArray 26)).heap.size A n bs := (hr.below hB0).more hB0.size
  have hs0 : (w.alloc (.cells (pmL .zero).toArray 26)).heap.size = w.heap.size + 1 := by simp
  clear hr
  go_enter Try.func84, Try.ntmps84
  go_wp2_with fail
  refine (of_any A n c bs _ hR0 (by omega) hA).mono ?_
  rintro e w1 ⟨p, rfl, hp, hr1, hb1⟩
  have hA1 := hA0.below hb1 (by omega)
  have hB1 := hB0.trans (hb1.mono hB0.size)
  have hs1 := hb1.size
  rw [hs0] at hp hr1 hs1
  have hpl : p < w1.heap.size := by obtain ⟨_, _, _, h, _⟩ := hr1; exact h.lt
  have hby := hr1.byt
  clear hb1 hA0 hB0 hR0 hs0
  have hA2 := hA1.alloc (.cells (tkL .zero).toArray 124)
  have hT2 := At.new w1 124 (tkL .zero)
  have hB2 := hB1.alloc (by omega) (.cells (tkL .zero).toArray 124)
  have hr2 := hr1.kept ((Kept.refl (fun _ => False) w1).alloc (.cells (tkL .zero).toArray 124)) (fun h => h) (fun _ _ h => h)
  obtain ⟨tot, htot⟩ : ∃ x, decP bs.length (bs, false) .zero = x := ⟨_, rfl⟩
  have HD := Lib.hid (show decodeS bs = finT tot by unfold decodeS; rw [htot])
  obtain ⟨G, hG⟩ : ∃ x, bs.length = x := ⟨_, rfl⟩
  have hGn : G ≤ n := by rw [← hG, HL.out]; exact Nat.le_refl _
  rw [hG] at htot
  have HI : Hid (DecL w p w1.heap.size tot G (w1.alloc (.cells (tkL .zero).toArray 124)) (bs, false) .zero) := Lib.hid ⟨hr2, hA2, hT2, hB2, htot.symm, by rw [← hG]; exact Nat.le_refl _, rfl⟩
  clear hr1 hA1 hB1 hA2 hT2 hB2 hr2 htot hG
  go_wp2_with fail
  go_loopg [6, 7] G (fun gk u v wr => ∃ (s : St) (t : TK), gk ≤ G ∧ Hid (DecL w p w1.heap.size tot gk wr s t ∧ Byt s.1))
  case atStart => exact ⟨_, _, Nat.le_refl _, Lib.hid ⟨HI.out, hby⟩⟩
  case round =>
    clear HI
    obtain ⟨s, t, hgk, hat⟩ := hrel
    have hsn : s.1.length ≤ 1000000 := by have := hat.out.1.le; omega
    go_wp2_with fail
    refine (left_any p _ _ s wr hat.out.1.rd).mono ?_
    rintro e w2 ⟨rfl, rfl⟩
    rcases Nat.eq_zero_or_pos s.1.length with hz | hz
    · have hnil : s.1 = [] := List.eq_nil_of_length_eq_zero hz
      have htt : tot = some t := by
        rw [hat.out.1.eq]
        cases gk <;> (unfold decP; rw [if_pos hnil])
      rw [htt] at HD
      clear htt hnil
      rw [hz]
      have h5 := hat.out.1.a5
      have h2 := hat.out.1.a2
      have c12 := h5.cell 12
      rw [show (tkL t)[12]? = some (.bool t.z) from rfl] at c12
      have hsz := h5.lt
      cases hcz : t.z with
      | false =>
        rw [hcz] at c12
        have HN := Lib.hid (show decodeS bs = none by rw [HD.out, finT_some, hcz]; rfl)
        have HB := Lib.hid hat.out.1.bl
        clear hat HD hz
        go_wp2_with (first | ((with_reducible refine at_stp ?_); refine st_pm _ _ (pmL .zero) (by rfl) (by rfl) h2 (by rfl) (by rfl) (by rfl) ?_; intro w9 hA9 hk9) | fail)
        refine bodyPost_ret (results_cell_tmp 2 3 26 (by rfl) _ 26 _ _ _ (by rfl) (by rfl) hA9 Try.underlying26 rfl pm_info) rfl ?_
        exact PdecPost.no HN.out (hk9.below HB.out (by omega) (fun j hj => by omega))
      | true =>
        rw [hcz] at c12
        have hrt := pright_any t.p
        have hF : decodeS bs = if prightB t.p then some t.p else none := by rw [HD.out, finT_some, hcz, Bool.true_and]
        obtain ⟨L, hL⟩ : ∃ L, pmL t.p = L := ⟨_, rfl⟩
        have hLl : L.length = 12 := by rw [← hL]; rfl
        have hLo : L.all (·.oneCell') = true := by rw [← hL]; rfl
        have hLv : pmV t.p = .agg L.toArray := by rw [← hL]; rfl
        have hrg : ∀ W : World, At W w1.heap.size 124 (tkL t) → W.rangeAt w1.heap.size 0 L := by
          intro W hW j v hj
          rw [← hL] at hj
          rw [hW.cell, Nat.zero_add]
          unfold tkL
          rw [List.getElem?_append_left (List.getElem?_eq_some_iff.1 hj).1]
          exact hj
        rw [hLv] at hrt
        have h5g := hrg _ h5
        have HLl := Lib.hid hLl
        have HLo := Lib.hid hLo
        have HLv := Lib.hid hLv
        have HB := Lib.hid hat.out.1.bl
        obtain ⟨rb, hrb⟩ : ∃ x, prightB t.p = x := ⟨_, rfl⟩
        rw [hrb] at hrt hF
        have HF := Lib.hid hF
        have HRG := Lib.hid hrg
        clear hat HD hz hL hLl hLo hLv hrb hF hrg
        cases rb with
        | false =>
          go_wp2_with (first | ((with_reducible refine at_ldp ?_); refine ld_pm_g (by rfl) w1.heap.size 0 L (by rfl) h5g HLl.out ?_) | fail)
          refine (hrt _).mono ?_
          rintro e w3 ⟨rfl, hb3⟩
          have h2' := h2.below hb3 h2.lt
          have hB3 := HB.out.trans (hb3.mono HB.out.size)
          have hz3 := hb3.size
          go_wp2_with (first | ((with_reducible refine at_stp ?_); refine st_pm _ _ (pmL .zero) (by rfl) (by rfl) h2' (by rfl) (by rfl) (by rfl) ?_; intro w9 hA9 hk9) | fail)
          refine bodyPost_ret (results_cell_tmp 2 3 26 (by rfl) _ 26 _ _ _ (by rfl) (by rfl) hA9 Try.underlying26 rfl pm_info) rfl ?_
          exact PdecPost.no HF.out (hk9.below hB3 (by omega) (fun j hj => by omega))
        | true =>
          go_wp2_with (first | ((with_reducible refine at_ldp ?_); refine ld_pm_g (by rfl) w1.heap.size 0 L (by rfl) h5g HLl.out ?_) | fail)
          refine (hrt _).mono ?_
          rintro e w3 ⟨rfl, hb3⟩
          have h2' := h2.below hb3 h2.lt
          have h5' := HRG.out _ (h5.below hb3 h5.lt)
          have hB3 := HB.out.trans (hb3.mono HB.out.size)
          have hz3 := hb3.size
          go_wp2_with (first | ((with_reducible refine at_ldp ?_); refine ld_pm_g (by rfl) w1.heap.size 0 L (by rfl) h5' HLl.out ?_) | ((with_reducible refine at_stp ?_); refine st_pm _ _ L (by rfl) (by rfl) h2' (by rfl) HLl.out HLo.out ?_; intro w9 hA9 hk9) | fail)
          refine bodyPost_ret (results_cell_tmp 2 3 26 (by rfl) _ 26 _ _ _ (by rfl) (by rfl) hA9 Try.underlying26 rfl (by rw [HLl.out]; exact pm_info)) rfl ?_
          have hfin := PdecPost.yes HF.out (hk9.below hB3 (by omega) (fun j hj => by omega))
          rw [HLv.out] at hfin
          exact hfin
    · obtain ⟨N', hN'⟩ : ∃ x, s.1.length = x := ⟨_, rfl⟩
      have hne : s.1 ≠ [] := by intro h; rw [h] at hz; simp at hz
      have HLN := Lib.hid hN'
      rw [hN'] at hz ⊢
      have hzz : (0 : Int) < N' := by omega
      obtain ⟨gk', rfl⟩ : ∃ g', gk = g' + 1 := ⟨gk - 1, by have := hat.out.1.le; omega⟩
      have heq := hat.out.1.eq
      unfold decP at heq
      rw [if_neg hne] at heq
      have hlt := dec_lt s hat.out.2 hne
      have hle := hat.out.1.le
      have hvl : (varN s).1.length ≤ 1000000 := by have := varN_le s; omega
      have h5 := hat.out.1.a5
      have h2 := hat.out.1.a2
      have hbl := hat.out.1.bl
      have hrd := hat.out.1.rd
      clear hN'
      go_wp2_with fail
      refine (var_any p _ _ s _ hrd (fun b hb => by omega)).mono ?_
      rintro e w3 ⟨rfl, hr3, hk3⟩
      have h53 := h5.kept hk3 (by omega)
      have h23 := h2.kept hk3 (by omega)
      have hb3 := hk3.below hbl (by have := hbl.size; omega) (fun j hj => by omega)
      clear hrd h5 h2 hbl hk3
      go_wp2_with fail
      refine (text_any p _ _ (varN s) w3 hr3 (fun b hb => by omega) (by omega)).mono ?_
      rintro e w4 ⟨v4, rfl, hown, hr4, hk4⟩
      have h54 := h53.kept hk4 (by omega)
      have h24 := h23.kept hk4 (by omega)
      have hb4 := hk4.below hb3 (by have := hb3.size; omega) (fun j hj => by omega)
      have hz3 := h53.lt
      have hz4 := hk4.size
      obtain ⟨A4, c4, rfl, _, _, _⟩ := hown.open_
      have hAc := hown.nil_cap
      have hP4 : RdP w4 (· ≠ w1.heap.size) A4 (textR (varN s)).length (textR (varN s)) := (hown.rdP rfl).mono (fun b _ hb => by have := (hown.block_lt b hb).1; omega)
      have hl4 : (textR (varN s)).length ≤ 1000000 := by have := takeR_le (varN (varN s)) (varR (varN s)); have := varN_le (varN s); unfold textR; omega
      clear hr3 h53 h23 hb3 hk4 hown
      obtain ⟨s', hs'⟩ : ∃ x, textN (varN s) = x := ⟨_, rfl⟩
      obtain ⟨tx, htx⟩ : ∃ x, textR (varN s) = x := ⟨_, rfl⟩
      obtain ⟨id, hid⟩ : ∃ x, varR s = x := ⟨_, rfl⟩
      have hby4 : Byt s'.1 := by rw [← hs']; exact hr4.byt
      rw [hs'] at hr4 heq hlt
      rw [htx] at heq hP4 hl4 ⊢
      rw [hid] at heq ⊢
      have HEQ := Lib.hid heq
      have HB4 := Lib.hid hb4
      have HBY := Lib.hid hby4
      clear hs' htx hid heq hb4 hat hby4
      go_wp2_with fail
      refine (bad_any p _ _ s' w4 hr4).mono ?_
      rintro e w5 ⟨rfl, rfl⟩
      obtain ⟨sl, sb⟩ := s'
      cases sb with
      | true =>
        have HN := Lib.hid (show decodeS bs = none by rw [HD.out, HEQ.out, if_pos rfl]; rfl)
        clear hlt HEQ HD
        have h2' := h24
        go_wp2_with (first | ((with_reducible refine at_stp ?_); refine st_pm _ _ (pmL .zero) (by rfl) (by rfl) h2' (by rfl) (by rfl) (by rfl) ?_; intro w9 hA9 hk9) | fail)
        refine bodyPost_ret (results_cell_tmp 2 3 26 (by rfl) _ 26 _ _ _ (by rfl) (by rfl) hA9 Try.underlying26 rfl pm_info) rfl ?_
        exact PdecPost.no HN.out (hk9.below HB4.out (by omega) (fun j hj => by omega))
      | false =>
        have hlt' := hlt rfl
        simp only at hlt'
        have HE2 := Lib.hid (show tot = (match takeS t id tx with | none => none | some t' => decP gk' (sl, false) t') by rw [HEQ.out, if_neg (by simp)])
        clear hlt HEQ
        go_wp2_with fail
        refine (take_any' w1.heap.size t id A4 _ c4 tx w4 h54 hP4 hl4 hAc).mono ?_
        intro e w5 hpost
        obtain ⟨he, hyes, _, hk5⟩ := hpost
        have hr5 := hr4.kept hk5 (by omega) (fun b hb => by omega)
        have h2' := h24.kept hk5 (by omega)
        have hb5 := hk5.below HB4.out (by have := HB4.out.size; omega) (fun j hj => by omega)
        cases hts : takeS t id tx with
        | none =>
          rw [hts] at he HE2
          subst he
          have HN := Lib.hid (show decodeS bs = none by rw [HD.out, HE2.out]; rfl)
          clear HE2 hyes hts HD hr5
          go_wp2_with (first | ((with_reducible refine at_stp ?_); refine st_pm _ _ (pmL .zero) (by rfl) (by rfl) h2' (by rfl) (by rfl) (by rfl) ?_; intro w9 hA9 hk9) | fail)
          refine bodyPost_ret (results_cell_tmp 2 3 26 (by rfl) _ 26 _ _ _ (by rfl) (by rfl) hA9 Try.underlying26 rfl pm_info) rfl ?_
          exact PdecPost.no HN.out (hk9.below hb5 (by have := hb5.size; omega) (fun j hj => by omega))
        | some t' =>
          rw [hts] at he HE2
          subst he
          have h55 := hyes t' hts
          have HE3 : Hid (tot = decP gk' (sl, false) t') := Lib.hid HE2.out
          have HNX : Hid (DecL w p w1.heap.size tot gk' w5 (sl, false) t') := Lib.hid ⟨hr5, h2', h55, hb5, HE3.out, (by show sl.length ≤ gk'; omega), rfl⟩
          clear HE2 HE3 hyes hts hr5 h2' h55 hb5 h54 h24 hr4 hP4
          go_wp2_with fail
          go_roundg gk'
          case measure => omega
          case rel => exact ⟨_, _, by omega, Lib.hid ⟨HNX.out, HBY.out⟩⟩
end Go.Proofs.Ytdakbedohjemeaa
