/-
  bytes.Equal, slices.Equal of Ranges; arrays of seven numbers.
-/
import Derived.Test.YtkahndjflhgccaaSame2
namespace Go.Proofs.Ytkahndjflhgccaa
set_option linter.unusedVariables false
set_option linter.unusedSimpArgs false
open Go.RowKit
def numB (m m' : FN) : Bool := m.s == m'.s && (m.o == m'.o && (m.l == m'.l && (m.c == m'.c && (m.f == m'.f && (m.q == m'.q && m.y == m'.y)))))
theorem run_nums (W : World) (m m' : FN) : (Op.equalIn 10000 64 (.agg #[.int .u64 m.s, .int .u64 m.o, .int .u64 m.l, .int .u64 m.c, .int .u64 m.f, .int .u64 m.q, .int .u64 m.y])
    (.agg #[.int .u64 m'.s, .int .u64 m'.o, .int .u64 m'.l, .int .u64 m'.c, .int .u64 m'.f, .int .u64 m'.q, .int .u64 m'.y])).run Try.prog W = .ok (numB m m') W := by
  have hp : Try.prog.plainKey 25 = true := by kernel_rfl
  have hu : Try.prog.underlying 25 = some (.int .u64) := Try.underlying25
  have hc : Try.prog.cellsOf 25 = 1 := by kernel_rfl
  obtain ⟨i, hi⟩ : ∃ i, Try.prog.info? 25 = some i := by
    cases h : Try.prog.info? 25 with
    | some i => exact ⟨i, rfl⟩
    | none => exact absurd (show (Try.prog.info? 25).isSome = true by kernel_rfl) (by rw [h]; simp)
  rw [show (10000 : Nat) = 9999 + 1 from rfl, run_equalIn_array W 9999 _ _ (n := 7) Try.underlying64 hi, hc, show (9999 : Nat) = 9998 + 1 from rfl]
  rw [show List.range 7 = [0, 1, 2, 3, 4, 5, 6] from rfl]
  unfold numB
  rw [step_items W _ .u64 hp hu 9998 1 _ _ 0 _ m.s m'.s rfl rfl]
  cases (m.s == m'.s) <;> simp only [Bool.false_and, Bool.true_and, if_true, Bool.false_eq_true, if_false]
  rw [step_items W _ .u64 hp hu 9998 1 _ _ 1 _ m.o m'.o rfl rfl]
  cases (m.o == m'.o) <;> simp only [Bool.false_and, Bool.true_and, if_true, Bool.false_eq_true, if_false]
  rw [step_items W _ .u64 hp hu 9998 1 _ _ 2 _ m.l m'.l rfl rfl]
  cases (m.l == m'.l) <;> simp only [Bool.false_and, Bool.true_and, if_true, Bool.false_eq_true, if_false]
  rw [step_items W _ .u64 hp hu 9998 1 _ _ 3 _ m.c m'.c rfl rfl]
  cases (m.c == m'.c) <;> simp only [Bool.false_and, Bool.true_and, if_true, Bool.false_eq_true, if_false]
  rw [step_items W _ .u64 hp hu 9998 1 _ _ 4 _ m.f m'.f rfl rfl]
  cases (m.f == m'.f) <;> simp only [Bool.false_and, Bool.true_and, if_true, Bool.false_eq_true, if_false]
  rw [step_items W _ .u64 hp hu 9998 1 _ _ 5 _ m.q m'.q rfl rfl]
  cases (m.q == m'.q) <;> simp only [Bool.false_and, Bool.true_and, if_true, Bool.false_eq_true, if_false]
  rw [step_items W _ .u64 hp hu 9998 1 _ _ 6 _ m.y m'.y rfl rfl]
  cases (m.y == m'.y) <;> simp [Op.eqItems]
set_option maxRecDepth 100000 in
theorem beq_any (P P' : Nat → Prop) (d d' : Sl) (ds ds' : List Int) (w : World) (h : InD w P d ds) (h' : InD w P' d' ds') :
    Calls Try.prog 32 #[.slice d.A d.n d.c, .slice d'.A d'.n d'.c] w (FrPost (.bool (decide (ds = ds'))) w) := by
  have hdr := h.rd.1
  have hdr' := h'.rd.1
  have hby := hdr.2.1
  have hby' := hdr'.2.1
  have t1 := run_text (P := Try.prog) (c := d.c) hdr 26 5 9 Try.underlying26 Try.underlying5 Try.underlying9
  have t2 := run_text (P := Try.prog) (c := d'.c) hdr' 26 5 9 Try.underlying26 Try.underlying5 Try.underlying9
  clear h h' hdr hdr'
  obtain ⟨A, n, c⟩ := d
  obtain ⟨A', n', c'⟩ := d'
  simp only at t1 t2 ⊢
  by_cases eT : ds = ds'
  · subst eT
    have HV : Hid (decide (ds = ds) = true) := Lib.hid (by simp)
    obtain ⟨X, hX⟩ : ∃ x, strOfNums ds = x := ⟨_, rfl⟩
    rw [hX] at t1 t2
    clear hX hby hby'
    have eX : (X.toList == X.toList) = true := by simp
    obtain ⟨b, hb⟩ : ∃ b, decide (ds = ds) = b := ⟨_, rfl⟩
    rw [hb] at HV ⊢
    clear hb
    go_enter Try.func32, Try.ntmps32
    go_wp2
    go_ret
    exact ⟨by rw [HV.out]; rfl, Below.refl _ _⟩
  · have eX := str_ne ds ds' hby hby' eT
    rw [beq_toListBytes] at eX
    have HV : Hid (decide (ds = ds') = false) := Lib.hid (by simp [eT])
    obtain ⟨X, hX⟩ : ∃ x, strOfNums ds = x := ⟨_, rfl⟩
    obtain ⟨X', hX'⟩ : ∃ x, strOfNums ds' = x := ⟨_, rfl⟩
    rw [hX] at t1 eX
    rw [hX'] at t2 eX
    clear hX hX' hby hby'
    obtain ⟨b, hb⟩ : ∃ b, decide (ds = ds') = b := ⟨_, rfl⟩
    rw [hb] at HV ⊢
    clear hb
    go_enter Try.func32, Try.ntmps32
    go_wp2
    go_ret
    exact ⟨by rw [HV.out]; rfl, Below.refl _ _⟩
set_option maxRecDepth 100000 in
set_option maxHeartbeats 2000000 in
theorem seq_any (P P' : Nat → Prop) (r r' : Sl) (rs rs' : RS) (w : World) (h : InR w P r rs) (h' : InR w P' r' rs') :
    Calls Try.prog 33 #[.slice r.A r.n r.c, .slice r'.A r'.n r'.c] w (FrPost (.bool (decide (rs = rs'))) w) := by
  obtain ⟨hlen, _, hcell⟩ := h.rd
  obtain ⟨hlen', _, hcell'⟩ := h'.rd
  have hcm := Nat.le_trans h.lc h.cm
  unfold maxLen at hcm
  have HL := Lib.hid hlen
  have HL' := Lib.hid hlen'
  have HC := Lib.hid hcell
  have HC' := Lib.hid hcell'
  clear h h' hlen hlen' hcell hcell'
  obtain ⟨rA, rn, rc⟩ := r
  obtain ⟨rA', rn', rc'⟩ := r'
  simp only at HL HL' HC HC' hcm ⊢
  obtain ⟨V, hV⟩ : ∃ b, decide (rs = rs') = b := ⟨_, rfl⟩
  have HV := Lib.hid hV
  rw [hV]
  clear hV
  by_cases e_n : rn = rn'
  · subst e_n
    go_enter Try.func33, Try.ntmps33
    go_wp2
    go_loopw [13] (fun i wr => ∃ k : Nat, k ≤ rn ∧ i = .int .i64 k ∧ Hid (Below w.heap.size w wr) ∧ Hid (V = decide (rs.drop k = rs'.drop k))) (fun i _ => rn - (intOf i).toNat)
    case atStart => exact ⟨0, by omega, rfl, Lib.hid (Below.refl _ _), Lib.hid (by rw [← HV.out]; simp)⟩
    case round =>
      obtain ⟨k, hk, rfl, hbr, hst⟩ := hrel
      by_cases hlt : k < rn
      · obtain ⟨x, hx⟩ : ∃ x, rs[k]? = some x := ⟨_, List.getElem?_eq_getElem (by rw [HL.out]; exact hlt)⟩
        obtain ⟨x', hx'⟩ : ∃ x, rs'[k]? = some x := ⟨_, List.getElem?_eq_getElem (by rw [HL'.out]; exact hlt)⟩
        obtain ⟨b, off, eA, hb, _, hc⟩ := HC.out (by omega)
        obtain ⟨b', off', eA', hb', _, hc'⟩ := HC'.out (by omega)
        subst eA
        subst eA'
        obtain ⟨lo, hi⟩ := x
        obtain ⟨lo', hi'⟩ := x'
        obtain ⟨ca, cb⟩ := hc k _ hx
        obtain ⟨ca', cb'⟩ := hc' k _ hx'
        have ga : wr.cell? ⟨b, off + k * 2, none⟩ = some (.int .u64 lo) := (hbr.out.cell (p := ⟨b, _, none⟩) hb).trans ca
        have gb : wr.cell? ⟨b, off + k * 2 + 1, none⟩ = some (.int .u64 hi) := (hbr.out.cell (p := ⟨b, _, none⟩) hb).trans cb
        have ga' : wr.cell? ⟨b', off' + k * 2, none⟩ = some (.int .u64 lo') := (hbr.out.cell (p := ⟨b', _, none⟩) hb').trans ca'
        have gb' : wr.cell? ⟨b', off' + k * 2 + 1, none⟩ = some (.int .u64 hi') := (hbr.out.cell (p := ⟨b', _, none⟩) hb').trans cb'
        have HS : Hid (V = (decide ((lo, hi) = (lo', hi')) && decide (rs.drop (k + 1) = rs'.drop (k + 1)))) := Lib.hid (hst.out.trans (rs_drop_eq rs rs' k _ _ hx hx'))
        have hki : (k : Int) < (rn : Int) := by omega
        have hk0 : (0 : Int) ≤ (k : Int) := by omega
        clear ca cb ca' cb' hc hc' hst hx hx' hb hb' HC HC'
        by_cases e1 : lo = lo'
        · subst e1
          by_cases e2 : hi = hi'
          · subst e2
            go_wp2_with fail
            go_region
            go_wp2_with fail
            go_roundw
            case rel => exact ⟨k + 1, by omega, by go_num, Lib.hid (belowN hbr.out _), Lib.hid (by rw [HS.out]; simp)⟩
            case measure => simp [intOf]; omega
          · have n2 : (hi == hi') = false := by simpa using e2
            have HT : Hid (V = false) := Lib.hid (by rw [HS.out]; simp [e2])
            go_wp2_with fail
            go_region
            go_wp2_with fail
            go_ret
            exact ⟨by rw [HT.out]; rfl, belowN hbr.out _⟩
        · have n1 : (lo == lo') = false := by simpa using e1
          have HT : Hid (V = false) := Lib.hid (by rw [HS.out]; simp [e1])
          go_wp2_with fail
          go_region
          go_wp2_with fail
          go_ret
          exact ⟨by rw [HT.out]; rfl, belowN hbr.out _⟩
      · obtain rfl : k = rn := by omega
        have HT : Hid (V = true) := Lib.hid (by rw [hst.out, List.drop_eq_nil_of_le (by rw [HL.out]; exact Nat.le_refl _), List.drop_eq_nil_of_le (by rw [HL'.out]; exact Nat.le_refl _)]; simp)
        clear hst hlt
        go_wp2_with fail
        go_ret
        exact ⟨by rw [HT.out]; rfl, hbr.out⟩
  · have HT : Hid (V = false) := Lib.hid (by
      rw [← HV.out]
      simp only [decide_eq_false_iff_not]
      intro e
      exact e_n (by rw [← HL.out, ← HL'.out, e]))
    have en2 : ((rn : Int) == (rn' : Int)) = false := by simp; omega
    have en3 : ((rn : Int) != (rn' : Int)) = true := by simp; omega
    go_enter Try.func33, Try.ntmps33
    go_wp2
    go_ret
    exact ⟨by rw [HT.out]; rfl, Below.refl _ _⟩
end Go.Proofs.Ytkahndjflhgccaa
