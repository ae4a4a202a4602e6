/-
  OctetBack returns true at every row of asks: what was written is read. The mathematics, and the walk.
-/
import Derived.Test.YtijpfdjmfnokkaaWritten
import Derived.Deep.RegionHeld
namespace Go.Proofs.Ytijpfdjmfnokkaa
set_option linter.unusedVariables false
open Go.RowKit
theorem take_app (xs R : List Int) (n : Int) (h : n = xs.length) : takeR (xs ++ R, false) n = xs ∧ takeN (xs ++ R, false) n = (R, false) := by
  subst h
  unfold takeR takeN
  rw [if_pos (by simp; omega), if_pos (by simp; omega)]
  simp
theorem byte_app (a : Int) (R : List Int) : byteR ([a] ++ R, false) = a ∧ takeN ([a] ++ R, false) 1 = (R, false) := by
  have h := take_app [a] R 1 rfl
  unfold byteR
  rw [h.1, h.2]; exact ⟨rfl, rfl⟩
theorem two_app (m : Int) (R : List Int) : twoR (twoB m ++ R, false) = m ∧ takeN (twoB m ++ R, false) 2 = (R, false) := by
  have h := take_app (twoB m) R 2 rfl
  unfold twoR
  rw [h.1, h.2]
  refine ⟨?_, rfl⟩
  show m / 256 * 256 + m % 256 = m
  omega
theorem var_app (x : Int) (R : List Int) (h0 : 0 ≤ x) (h1 : x ≤ 4611686018427387903) : varR (putS x ++ R, false) = x ∧ varN (putS x ++ R, false) = (R, false) := by
  have hg := get_put x h0 h1 R
  have hs := size_pos x h1
  unfold varR varN
  rw [hg]
  show (if ((sizeS x : Nat) : Int) = 0 then 0 else x) = x ∧ (if ((sizeS x : Nat) : Int) = 0 then ([], true) else takeN (putS x ++ R, false) (sizeS x)) = (R, false)
  rw [if_neg (by omega), if_neg (by omega)]
  exact ⟨rfl, (take_app (putS x) R _ (by rw [putS_len])).2⟩
theorem text_app (xs R : List Int) (h : xs.length ≤ 1000) : textR (textB xs ++ R, false) = xs ∧ textN (textB xs ++ R, false) = (R, false) := by
  have hv := var_app (xs.length : Int) (xs ++ R) (by omega) (by omega)
  unfold textR textN textB
  rw [List.append_assoc, hv.1, hv.2]
  exact take_app xs R _ rfl
theorem encL_drop (L : List AskD) (k : Nat) (d : AskD) (h : L[k]? = some d) (hk : k < 15) : encL ((L.take 15).drop k) = encA d ++ encL ((L.take 15).drop (k + 1)) := by
  obtain ⟨hl, e⟩ := List.getElem?_eq_some_iff.1 h
  have hl' : k < (L.take 15).length := by rw [List.length_take]; omega
  rw [List.drop_eq_getElem_cons hl', List.getElem_take, e]
  rfl
theorem encL_15 (L : List AskD) : (encL (L.take 15)).length ≤ 570 := encL_take_len L 15 (Nat.le_refl _)
theorem encL_drop_len (L : List AskD) (k : Nat) : (encL ((L.take 15).drop k)).length ≤ 570 := by
  have h := encL_len ((L.take 15).drop k)
  have h2 : ((L.take 15).drop k).length ≤ 15 := by rw [List.length_drop]; have := List.length_take_le 15 L; omega
  omega
theorem Rdr.drewN' {w : World} {p : Nat} {T : TypeId} {P : Nat → Prop} {s : St} (h : Rdr w p T P s) (n : Nat) : Rdr (w.drewN n) p T P s := h.drewN n
theorem belowN {B : Nat} {a w : World} (h : Below B a w) (n : Nat) : Below B a (w.drewN n) := ⟨h.os, h.tape, h.output, h.size, h.block⟩
/-- A read leaves what is below as it was. -/
theorem back_below {w0 w w' : World} {base p : Nat} (h : Below base w0 w) (hk : Kept (· = p) w w') (hb : base ≤ w.heap.size) (hp : base ≤ p) : Below base w0 w' := hk.below h hb (fun j hj => by omega)
set_option maxRecDepth 100000 in
set_option maxHeartbeats 16000000 in
theorem oback_law (A2 : Option Addr) (n2 c2 : Nat) (L : List AskD) (w : World) (hL : Asks w w.heap.size A2 n2 c2 L) :
    Calls Try.prog 5 #[.slice A2 n2 c2] w fun e w' => e = .returned (.bool true) ∧ Below w.heap.size w w' := by
  have hn2 := hL.2.1
  have hc2 := hL.2.2.1
  unfold maxLen at hc2
  have HLL := Lib.hid hL.1
  have hE := encL_15 L
  go_enter Try.func5, Try.ntmps5
  go_wp2_with fail
  refine (written_any A2 n2 c2 L w hL).mono ?_
  rintro e w1 ⟨v, vb, rfl, hv, hvb, _, hb1⟩
  have hs1 := hb1.size
  obtain ⟨N, hN⟩ : ∃ N, (encL (L.take 15)).length = N := ⟨_, rfl⟩
  obtain ⟨A, c, rfl, g1, g2, g3⟩ := hv.open_n N hN
  have hA := hv.nil_cap
  rw [hN] at hE
  have NN := Lib.hid hN
  clear hN hv hvb
  go_wp2_with fail
  refine (of_any A N c _ w1 g3 (by omega) hA).mono ?_
  rintro e w2 ⟨p, rfl, hp, hr2, hb2⟩
  have hb3 := hb1.trans (hb2.mono hs1)
  have hpP : ∀ b, (w1.heap.size ≤ b ∧ b < p) → b ≠ p := fun b hb => by omega
  have hpb : w.heap.size ≤ p := by omega
  clear g3 hA
  go_wp2_with fail
  clear hb2
  go_loopw [7] (fun i wr => ∃ k : Nat, k ≤ n2 ∧ k ≤ 15 ∧ i = .int .i64 k ∧ Rdr wr p 59 (fun b => w1.heap.size ≤ b ∧ b < p) (encL ((L.take 15).drop k), false) ∧ Below w.heap.size w wr) (fun i _ => 15 - (intOf i).toNat)
  case atStart => exact ⟨0, by omega, by omega, rfl, by simpa using hr2, hb3⟩
  case round =>
    obtain ⟨k, hk1, hk2, rfl, hrr, hbr⟩ := hrel
    have hbs := hbr.size
    have hLr := hL.below hbr
    clear hr2 hb3
    by_cases hlt : k < n2 ∧ k < 15
    · obtain ⟨hlt1, hlt2⟩ := hlt
      have hd1 : decide (k < n2) = true := by simpa using hlt1
      have hd2 : decide (k < 15) = true := by simpa using hlt2
      have hd3 : decide ((k : Int) < 15) = true := by simp; omega
      obtain ⟨b, off, rfl, hbl, hask⟩ := hLr.2.2.2.2 (by omega)
      obtain ⟨d, hd⟩ : ∃ d, L[k]? = some d := ⟨_, List.getElem?_eq_getElem (by rw [HLL.out]; exact hlt1)⟩
      have hak := hask k d hd
      have het := encL_drop L k d hd hlt2
      have hel := encL_drop_len L (k + 1)
      have hal := encA_len d
      have ck := hak.ck
      have cx := hak.cx
      have cb := hak.cb
      have hx0 := hak.x0
      have hx1 := hak.x1
      have hlc := hak.lc
      have hcm := hak.cm
      have hcu := cut_any d.A d.len d.cap 30 wr hlc hcm (by omega) (fun h e => by have := hak.nil e; omega)
      have hrc := hak.rd.cut (m := min d.len 30) (by omega)
      rw [take_min d.bs d.len hak.rd.1 30] at hrc
      have EK := Lib.hid (show encA d = if d.k = 1 then [d.x % 256] else if d.k = 2 then twoB (d.x % 65536) else if d.k = 3 then (if d.x ≤ 4611686018427387903 then putS d.x else []) else if d.k = 4 then d.bs.take 30 else if d.k = 5 then textB (d.bs.take 30) else [] from rfl)
      obtain ⟨kk, hkk⟩ : ∃ x, d.k = x := ⟨_, rfl⟩
      obtain ⟨x, hx⟩ : ∃ x, d.x = x := ⟨_, rfl⟩
      obtain ⟨dA, hdA⟩ : ∃ x, d.A = x := ⟨_, rfl⟩
      obtain ⟨dl, hdl⟩ : ∃ x, d.len = x := ⟨_, rfl⟩
      obtain ⟨dc, hdc⟩ : ∃ x, d.cap = x := ⟨_, rfl⟩
      obtain ⟨xs, hxs⟩ : ∃ x, d.bs.take 30 = x := ⟨_, rfl⟩
      obtain ⟨q, hq⟩ : ∃ q, min dl 30 = q := ⟨_, rfl⟩
      obtain ⟨R, hR⟩ : ∃ R, encL ((L.take 15).drop (k + 1)) = R := ⟨_, rfl⟩
      rw [hkk] at ck EK
      rw [hx] at cx EK hx0 hx1
      rw [hdA, hdl, hdc] at cb
      rw [hdl, hdc] at hlc
      rw [hdc] at hcm
      rw [hdA, hdl, hxs, hq] at hrc
      rw [hdA, hdl, hdc] at hcu
      have hcu' : Calls Try.prog 11 #[.slice dA dl dc, .int .i64 30] wr fun e w' => e = .returned (.slice dA q dc) ∧ wr = w' := by rw [← hq]; exact hcu
      have CU := Lib.hid hcu'
      rw [hxs] at EK
      rw [hR] at het hel
      have hq30 : q ≤ 30 := by omega
      have hqc : q ≤ dc := by omega
      have QL := Lib.hid (show (q : Int) = xs.length by rw [hrc.1])
      have hxl : xs.length ≤ 30 := by rw [hrc.1]; exact hq30
      unfold maxLen at hcm
      rw [het] at hrr
      have RK := Lib.hid hR
      obtain ⟨TX, hTX⟩ : ∃ TX, strOfNums xs = TX := ⟨_, rfl⟩
      have TT := Lib.hid hTX
      have hcase : kk = 1 ∨ kk = 2 ∨ (kk = 3 ∧ x ≤ 4611686018427387903) ∨ (kk = 3 ∧ 4611686018427387903 < x) ∨ kk = 4 ∨ kk = 5 ∨ ((kk == 1) = false ∧ (kk == 2) = false ∧ (kk == 3) = false ∧ (kk == 4) = false ∧ (kk == 5) = false) := by
        simp; omega
      clear hask hak hd hkk hx hdA hdl hdc hxs hq hR het hcu hcu' hd1 hd2 hd3 hlc hTX
      rcases hcase with rfl | rfl | ⟨rfl, hsm⟩ | ⟨rfl, hbg⟩ | rfl | rfl | ⟨e1, e2, e3, e4, e5⟩
      · have EQ := (show encA d = [x % 256] by rw [EK.out]; simp)
        rw [EQ] at hrr
        clear EQ
        go_wp2_with fail
        refine (CU.out).mono ?_
        rintro e w' ⟨rfl, rfl⟩
        go_wp2_with fail
        have MM := Lib.hid (byte_app (x % 256) R)
        go_region_held (fun w' => w'.cell? ⟨b, off + k * 4 + 2, none⟩ = some (.int .u64 x)) (first | assumption | go_keep)
          ((go_at_call 13; refine (byte_any p _ (fun b => w1.heap.size ≤ b ∧ b < p) _ wr.drew hrr hpP).mono ?_; rintro e w3 ⟨rfl, hr3, hk3⟩; rw [MM.out.1]; rw [MM.out.2] at hr3; have hb3 := back_below hbr.drew hk3 hbs hpb; have cx3 : w3.cell? ⟨b, off + k * 4 + 2, none⟩ = some (.int .u64 x) := (hb3.cell (p := ⟨b, _, none⟩) hbl).trans ((hbr.cell (p := ⟨b, _, none⟩) hbl).symm.trans cx)))
        go_wp2_with fail
        refine (bad_any p _ _ _ _ hr3).mono ?_
        rintro e w' ⟨rfl, rfl⟩
        go_wp2_with fail
        go_roundw
        case rel => exact ⟨k + 1, by omega, by omega, by go_num, by rw [RK.out]; exact hr3, hb3⟩
        case measure => simp [intOf]; omega
      · have EQ := (show encA d = twoB (x % 65536) by rw [EK.out]; simp)
        rw [EQ] at hrr
        clear EQ
        go_wp2_with fail
        refine (CU.out).mono ?_
        rintro e w' ⟨rfl, rfl⟩
        go_wp2_with fail
        have MM := Lib.hid (two_app (x % 65536) R)
        go_region_held (fun w' => w'.cell? ⟨b, off + k * 4 + 2, none⟩ = some (.int .u64 x)) (first | assumption | go_keep)
          ((go_at_call 14; refine (two_any p _ (fun b => w1.heap.size ≤ b ∧ b < p) _ wr.drew hrr hpP).mono ?_; rintro e w3 ⟨rfl, hr3, hk3⟩; rw [MM.out.1]; rw [MM.out.2] at hr3; have hb3 := back_below hbr.drew hk3 hbs hpb; have cx3 : w3.cell? ⟨b, off + k * 4 + 2, none⟩ = some (.int .u64 x) := (hb3.cell (p := ⟨b, _, none⟩) hbl).trans ((hbr.cell (p := ⟨b, _, none⟩) hbl).symm.trans cx)))
        go_wp2_with fail
        refine (bad_any p _ _ _ _ hr3).mono ?_
        rintro e w' ⟨rfl, rfl⟩
        go_wp2_with fail
        go_roundw
        case rel => exact ⟨k + 1, by omega, by omega, by go_num, by rw [RK.out]; exact hr3, hb3⟩
        case measure => simp [intOf]; omega
      · have EQ := (show encA d = putS x by rw [EK.out]; simp [hsm])
        rw [EQ] at hrr
        clear EQ
        go_wp2_with fail
        refine (CU.out).mono ?_
        rintro e w' ⟨rfl, rfl⟩
        go_wp2_with fail
        have hgd : decide (4611686018427387903 < x) = false := by simp; omega
        have MM := Lib.hid (var_app x R hx0 hsm)
        go_region_held (fun w' => w'.cell? ⟨b, off + k * 4 + 2, none⟩ = some (.int .u64 x)) (first | assumption | go_keep)
          ((go_at_call 15; refine (var_any p _ (fun b => w1.heap.size ≤ b ∧ b < p) _ wr.drew hrr hpP).mono ?_; rintro e w3 ⟨rfl, hr3, hk3⟩; rw [MM.out.1]; rw [MM.out.2] at hr3; have hb3 := back_below hbr.drew hk3 hbs hpb; have cx3 : w3.cell? ⟨b, off + k * 4 + 2, none⟩ = some (.int .u64 x) := (hb3.cell (p := ⟨b, _, none⟩) hbl).trans ((hbr.cell (p := ⟨b, _, none⟩) hbl).symm.trans cx)))
        go_wp2_with fail
        refine (bad_any p _ _ _ _ hr3).mono ?_
        rintro e w' ⟨rfl, rfl⟩
        go_wp2_with fail
        go_roundw
        case rel => exact ⟨k + 1, by omega, by omega, by go_num, by rw [RK.out]; exact hr3, hb3⟩
        case measure => simp [intOf]; omega
      · have EQ := (show encA d = [] by rw [EK.out]; simp; omega)
        rw [EQ] at hrr
        clear EQ
        go_wp2_with fail
        refine (CU.out).mono ?_
        rintro e w' ⟨rfl, rfl⟩
        go_wp2_with fail
        have hgd : decide (4611686018427387903 < x) = true := by simp; omega
        go_quiet (fail)
        go_wp2_with fail
        refine (bad_any p _ _ _ _ (hrr.drewN _)).mono ?_
        rintro e w' ⟨rfl, rfl⟩
        go_wp2_with fail
        go_roundw
        case rel => exact ⟨k + 1, by omega, by omega, by go_num, by rw [RK.out]; exact (hrr.drewN _), (belowN hbr _)⟩
        case measure => simp [intOf]; omega
      · have EQ := (show encA d = xs by rw [EK.out]; simp)
        rw [EQ] at hrr
        clear EQ
        go_wp2_with fail
        refine (CU.out).mono ?_
        rintro e w' ⟨rfl, rfl⟩
        go_wp2_with fail
        have MM := Lib.hid (take_app xs R q QL.out)
        have t0 := run_text (P := Try.prog) (c := dc) hrc 23 5 9 Try.underlying23 Try.underlying5 Try.underlying9
        have t1 := run_text (P := Try.prog) (c := dc) hrc.drew 23 5 9 Try.underlying23 Try.underlying5 Try.underlying9
        rw [TT.out] at t0 t1
        go_region_held (fun w' => w'.cell? ⟨b, off + k * 4 + 2, none⟩ = some (.int .u64 x)) (first | assumption | go_keep)
          ((go_at_call 16; refine (raw_any p _ (fun b => w1.heap.size ≤ b ∧ b < p) _ q wr.drew hrr hpP (by simp; omega)).mono ?_; rintro e w3 ⟨v3, rfl, ho3, hr3, hk3⟩; rw [MM.out.1] at ho3; rw [MM.out.2] at hr3; have hb3 := back_below hbr.drew hk3 hbs hpb; have cx3 : w3.cell? ⟨b, off + k * 4 + 2, none⟩ = some (.int .u64 x) := (hb3.cell (p := ⟨b, _, none⟩) hbl).trans ((hbr.cell (p := ⟨b, _, none⟩) hbl).symm.trans cx); have hrc3 : Rd w3 w.heap.size dA q xs := hrc.keep (Nat.le_refl _) (fun b' off' h => (hb3.cell (p := ⟨b', off', none⟩) h).trans (hbr.cell (p := ⟨b', off', none⟩) h).symm); obtain ⟨A3, c3, rfl, _, _, rd3⟩ := ho3.open_; have t2 := run_text (P := Try.prog) (c := dc) hrc3 23 5 9 Try.underlying23 Try.underlying5 Try.underlying9; rw [TT.out] at t2; have t3 := run_text (P := Try.prog) (c := c3) rd3 23 5 9 Try.underlying23 Try.underlying5 Try.underlying9; rw [TT.out] at t3))
        all_goals
          go_wp2_with fail
          refine (bad_any p _ _ _ _ hr3).mono ?_
          rintro e w' ⟨rfl, rfl⟩
          go_wp2_with fail
          go_roundw
          case rel => exact ⟨k + 1, by omega, by omega, by go_num, by rw [RK.out]; exact hr3, hb3⟩
          case measure => simp [intOf]; omega
      · have EQ := (show encA d = textB xs by rw [EK.out]; simp)
        rw [EQ] at hrr
        clear EQ
        go_wp2_with fail
        refine (CU.out).mono ?_
        rintro e w' ⟨rfl, rfl⟩
        go_wp2_with fail
        have MM := Lib.hid (text_app xs R (by omega))
        have t0 := run_text (P := Try.prog) (c := dc) hrc 23 5 9 Try.underlying23 Try.underlying5 Try.underlying9
        have t1 := run_text (P := Try.prog) (c := dc) hrc.drew 23 5 9 Try.underlying23 Try.underlying5 Try.underlying9
        rw [TT.out] at t0 t1
        go_region_held (fun w' => w'.cell? ⟨b, off + k * 4 + 2, none⟩ = some (.int .u64 x)) (first | assumption | go_keep)
          ((go_at_call 17; refine (text_any p _ (fun b => w1.heap.size ≤ b ∧ b < p) _ wr.drew hrr hpP (by have := textB_len xs; simp; omega)).mono ?_; rintro e w3 ⟨v3, rfl, ho3, hr3, hk3⟩; rw [MM.out.1] at ho3; rw [MM.out.2] at hr3; have hb3 := back_below hbr.drew hk3 hbs hpb; have cx3 : w3.cell? ⟨b, off + k * 4 + 2, none⟩ = some (.int .u64 x) := (hb3.cell (p := ⟨b, _, none⟩) hbl).trans ((hbr.cell (p := ⟨b, _, none⟩) hbl).symm.trans cx); have hrc3 : Rd w3 w.heap.size dA q xs := hrc.keep (Nat.le_refl _) (fun b' off' h => (hb3.cell (p := ⟨b', off', none⟩) h).trans (hbr.cell (p := ⟨b', off', none⟩) h).symm); obtain ⟨A3, c3, rfl, _, _, rd3⟩ := ho3.open_; have t2 := run_text (P := Try.prog) (c := dc) hrc3 23 5 9 Try.underlying23 Try.underlying5 Try.underlying9; rw [TT.out] at t2; have t3 := run_text (P := Try.prog) (c := c3) rd3 23 5 9 Try.underlying23 Try.underlying5 Try.underlying9; rw [TT.out] at t3))
        all_goals
          go_wp2_with fail
          refine (bad_any p _ _ _ _ hr3).mono ?_
          rintro e w' ⟨rfl, rfl⟩
          go_wp2_with fail
          go_roundw
          case rel => exact ⟨k + 1, by omega, by omega, by go_num, by rw [RK.out]; exact hr3, hb3⟩
          case measure => simp [intOf]; omega
      · have EQ := (show encA d = [] by rw [EK.out]; have h1 := e1; have h2 := e2; have h3 := e3; have h4 := e4; have h5 := e5; simp at h1 h2 h3 h4 h5; simp [h1, h2, h3, h4, h5])
        rw [EQ] at hrr
        clear EQ
        go_wp2_with fail
        refine (CU.out).mono ?_
        rintro e w' ⟨rfl, rfl⟩
        go_wp2_with fail
        refine (bad_any p _ _ _ _ hrr).mono ?_
        rintro e w' ⟨rfl, rfl⟩
        go_wp2_with fail
        go_roundw
        case rel => exact ⟨k + 1, by omega, by omega, by go_num, by rw [RK.out]; exact hrr, hbr⟩
        case measure => simp [intOf]; omega
    · have hcase : k = n2 ∨ (k = 15 ∧ k < n2) := by omega
      have hfin : encL ((L.take 15).drop k) = [] := by
        rw [List.drop_eq_nil_of_le (by rw [List.length_take, HLL.out]; omega)]; rfl
      rw [hfin] at hrr
      clear hlt hfin
      rcases hcase with rfl | ⟨rfl, hlt⟩
      all_goals
        go_wp2_with fail
        refine (left_any p _ _ _ wr hrr).mono ?_
        rintro e w' ⟨rfl, rfl⟩
        go_wp2_with fail
        refine (known_any _).mono ?_
        rintro e w5 ⟨rfl, k5⟩
        go_wp2_with fail
        go_ret
        exact ⟨rfl, hbr.trans (k5.mono hbs)⟩
end Go.Proofs.Ytijpfdjmfnokkaa
