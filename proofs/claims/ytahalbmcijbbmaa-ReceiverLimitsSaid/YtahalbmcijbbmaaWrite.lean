/-
  A frame that is right, as bytes (frame.write).
-/
import Derived.Test.YtahalbmcijbbmaaWack
namespace Go.Proofs.Ytahalbmcijbbmaa
set_option linter.unusedVariables false
set_option linter.unusedSimpArgs false
open Go.RowKit
def cidL (m : FN) : List Int := [m.c0, m.c1, m.c2, m.c3, m.c4, m.c5, m.c6, m.c7]
def bodyS (m : FN) (ds : List Int) (rs : RS) : List Int :=
  if m.k = 2 then putL (ackV m.y rs)
  else if m.k = 4 then putL [m.s, m.c, m.f]
  else if m.k = 5 then putL [m.s, m.c]
  else if m.k = 6 then putS m.o ++ textB ds
  else if m.k = 8 then (if 0 < m.o then putS m.s ++ putS m.o else putS m.s) ++ textB ds
  else if m.k = 16 then putS m.l
  else if m.k = 18 then putS m.l
  else if m.k = 20 then putS m.l
  else if m.k = 17 then putL [m.s, m.l]
  else if m.k = 24 then putL [m.q, m.l] ++ [8] ++ cidL m
  else if m.k = 25 then putS m.q
  else if m.k = 26 then cidL m
  else if m.k = 27 then cidL m
  else if m.k = 28 then putS m.c ++ textB ds
  else []
/-- A frame's bytes. -/
def oneS (m : FN) (ds : List Int) (rs : RS) : List Int := putS (wkS m) ++ bodyS m ds rs
theorem cid_rd (m : FN) (d r : Sl) {w : World} {g : Nat} (h : At w g 46 (frL m d r)) (hc : Byt (cidL m)) : Rd w w.heap.size (some ⟨g, 11, none⟩) 8 (cidL m) := by
  refine ⟨rfl, hc, fun _ => ⟨g, 11, rfl, h.lt, fun i hi => ?_⟩⟩
  rw [h.cell]
  have : i = 0 ∨ i = 1 ∨ i = 2 ∨ i = 3 ∨ i = 4 ∨ i = 5 ∨ i = 6 ∨ i = 7 := by omega
  rcases this with rfl | rfl | rfl | rfl | rfl | rfl | rfl | rfl <;> rfl
theorem wkS_bd (m : FN) (h0 : 0 ≤ m.k) (h1 : m.k ≤ 30) : 0 ≤ wkS m ∧ wkS m ≤ 30 := by
  unfold wkS; (repeat' split) <;> omega
set_option maxRecDepth 100000 in
set_option maxHeartbeats 1000000 in
theorem write_0 (base p : Nat) (T : TypeId) (v : Value) (bs : List Int) (s o l c f q y c0 c1 c2 c3 c4 c5 c6 c7 : Int) (fin : Bool) (d r : Sl) (ds : List Int) (rs : RS) (w : World) (h : Wtr w base p T v bs) (hl : bs.length ≤ 100000000000)
    (hf : Fits w (fun b => ¬ WS p v b) ⟨0, s, o, fin, l, c, f, q, y, c0, c1, c2, c3, c4, c5, c6, c7⟩ d r ds rs) (hr : rightB ⟨0, s, o, fin, l, c, f, q, y, c0, c1, c2, c3, c4, c5, c6, c7⟩ ds rs = true) (hbase : base ≤ w.heap.size) :
    Calls Try.prog 32 #[.pointer (some ⟨p, 0, none⟩), frV ⟨0, s, o, fin, l, c, f, q, y, c0, c1, c2, c3, c4, c5, c6, c7⟩ d r] w (WPost (.tuple #[]) w base p T v (bs ++ oneS ⟨0, s, o, fin, l, c, f, q, y, c0, c1, c2, c3, c4, c5, c6, c7⟩ ds rs)) := by
  obtain ⟨hwf, hdt, hrg⟩ := hf
  have hwb := wkS_bd ⟨0, s, o, fin, l, c, f, q, y, c0, c1, c2, c3, c4, c5, c6, c7⟩ (show (0 : Int) ≤ 0 from by decide) (show (0 : Int) ≤ 30 from by decide)
  have hbd : (True) := by
    simp [rightB, askN, nrB, smB, drB, FN.zero, knownB, askDs] at hr
    first | trivial | omega | exact ⟨by omega, hr.2⟩
  have hs0 := hwf.s0
  have ho0 := hwf.o0
  have hl0 := hwf.l0
  have hc0 := hwf.c0
  have hf0 := hwf.f0
  have hq0 := hwf.q0
  have hy0 := hwf.y0
  simp only at hs0 ho0 hl0 hc0 hf0 hq0 hy0
  have hcid : Byt (cidL ⟨0, s, o, fin, l, c, f, q, y, c0, c1, c2, c3, c4, c5, c6, c7⟩) := hwf.cid
  have hE : bs ++ oneS ⟨0, s, o, fin, l, c, f, q, y, c0, c1, c2, c3, c4, c5, c6, c7⟩ ds rs = bs ++ (putS (wkS ⟨0, s, o, fin, l, c, f, q, y, c0, c1, c2, c3, c4, c5, c6, c7⟩) ++ bodyS ⟨0, s, o, fin, l, c, f, q, y, c0, c1, c2, c3, c4, c5, c6, c7⟩ ds rs) := rfl
  have hbod : bodyS ⟨0, s, o, fin, l, c, f, q, y, c0, c1, c2, c3, c4, c5, c6, c7⟩ ds rs = [] := by
    simp [bodyS]
  rw [hbod] at hE
  have HE := Lib.hid hE
  clear hE hbod hr
  have hW := h
  have hB0 : Below w.heap.size w (w.alloc (.cells (frL ⟨0, s, o, fin, l, c, f, q, y, c0, c1, c2, c3, c4, c5, c6, c7⟩ d r).toArray 46)) := (Below.refl _ _).alloc (Nat.le_refl _) _
  have hA0 : At (w.alloc (.cells (frL ⟨0, s, o, fin, l, c, f, q, y, c0, c1, c2, c3, c4, c5, c6, c7⟩ d r).toArray 46)) w.heap.size 46 (frL ⟨0, s, o, fin, l, c, f, q, y, c0, c1, c2, c3, c4, c5, c6, c7⟩ d r) := At.new w _ _
  have hx0 := WSx.refl hW hB0
  have hM : w.heap.size ≤ (w.alloc (.cells (frL ⟨0, s, o, fin, l, c, f, q, y, c0, c1, c2, c3, c4, c5, c6, c7⟩ d r).toArray 46)).heap.size := hB0.size
  have hg : w.heap.size < (w.alloc (.cells (frL ⟨0, s, o, fin, l, c, f, q, y, c0, c1, c2, c3, c4, c5, c6, c7⟩ d r).toArray 46)).heap.size := hA0.lt
  have hn0 := hW.not_new (g := w.heap.size) (Nat.le_refl _)
  have hwk := wk_any ⟨0, s, o, fin, l, c, f, q, y, c0, c1, c2, c3, c4, c5, c6, c7⟩ d r
  obtain ⟨kv, hkv⟩ : ∃ x, wkS ⟨0, s, o, fin, l, c, f, q, y, c0, c1, c2, c3, c4, c5, c6, c7⟩ = x := ⟨_, rfl⟩
  rw [hkv] at hwb hwk HE
  clear hkv
  have HWK := Lib.hid (fun W => hwk W (show (0 : Int) ≤ 0 from by decide) (show (0 : Int) ≤ 30 from by decide) ho0)
  clear hwk
  have HWF := Lib.hid hwf
  have HDT := Lib.hid hdt
  have HRG := Lib.hid hrg
  have HCID := Lib.hid hcid
  clear hwf hdt hrg hcid
  obtain ⟨L, hL⟩ : ∃ L, frL ⟨0, s, o, fin, l, c, f, q, y, c0, c1, c2, c3, c4, c5, c6, c7⟩ d r = L := ⟨_, rfl⟩
  have hLl : L.length = 19 := by rw [← hL]; rfl
  have hfv : frV ⟨0, s, o, fin, l, c, f, q, y, c0, c1, c2, c3, c4, c5, c6, c7⟩ d r = .agg L.toArray := by rw [← hL]; rfl
  have hl_0 : L[0]? = some (.int .i64 0) := by rw [← hL]; rfl
  rw [hL] at hA0 hB0 hx0 hM hg
  rw [hfv] at HWK ⊢
  clear hL hfv
  have HL0 := Lib.hid hl_0
  clear hl_0
  have HLl := Lib.hid hLl
  clear hLl
  obtain ⟨dA, dn, dc⟩ := d
  obtain ⟨M, hMM⟩ : ∃ M, (w.alloc (.cells L.toArray 46)).heap.size = M := ⟨_, rfl⟩
  rw [hMM] at hx0 hM hg
  have HMM := Lib.hid hMM
  clear hMM
  go_enter Try.func32, Try.ntmps32
  go_wp2_with (first | ((with_reducible refine at_ld ?_); refine ld_fr_g _ _ (by rfl) (by rfl) hA0 HLl.out ?_) | fail)
  refine (HWK.out _).mono ?_
  rintro e w1 ⟨rfl, hb1⟩
  have hA1 := hA0.below hb1 (by rw [HMM.out]; exact hg)
  have hx1 := hx0.below hb1
  clear hA0 hx0 hb1
  have hm1 := hx1.2.2.2
  go_wp2_with fail
  refine (wvar_yes base p T v bs kv _ hx1.1 (by omega) hwb.1 (by omega) (by omega)).mono ?_
  rintro e w2 hw2
  obtain ⟨v2, rfl, hx2, hk2⟩ := hx1.step hM hw2
  have hA2 := hA1.kept hk2 (hx1.apart hg hn0)
  have hm2 := hx2.2.2.2
  clear hw2 hk2 hx1 hA1
  have e0 := (hA2.cell 0).trans HL0.out
  go_wp2_with fail
  go_end0
  have hfin := hx2.post hM (.tuple #[])
  try simp only [List.append_assoc] at hfin
  have hEE := HE.out
  try simp only [List.append_assoc] at hEE
  rw [hEE]
  simpa using hfin
set_option maxRecDepth 100000 in
set_option maxHeartbeats 1000000 in
theorem write_1 (base p : Nat) (T : TypeId) (v : Value) (bs : List Int) (s o l c f q y c0 c1 c2 c3 c4 c5 c6 c7 : Int) (fin : Bool) (d r : Sl) (ds : List Int) (rs : RS) (w : World) (h : Wtr w base p T v bs) (hl : bs.length ≤ 100000000000)
    (hf : Fits w (fun b => ¬ WS p v b) ⟨1, s, o, fin, l, c, f, q, y, c0, c1, c2, c3, c4, c5, c6, c7⟩ d r ds rs) (hr : rightB ⟨1, s, o, fin, l, c, f, q, y, c0, c1, c2, c3, c4, c5, c6, c7⟩ ds rs = true) (hbase : base ≤ w.heap.size) :
    Calls Try.prog 32 #[.pointer (some ⟨p, 0, none⟩), frV ⟨1, s, o, fin, l, c, f, q, y, c0, c1, c2, c3, c4, c5, c6, c7⟩ d r] w (WPost (.tuple #[]) w base p T v (bs ++ oneS ⟨1, s, o, fin, l, c, f, q, y, c0, c1, c2, c3, c4, c5, c6, c7⟩ ds rs)) := by
  obtain ⟨hwf, hdt, hrg⟩ := hf
  have hwb := wkS_bd ⟨1, s, o, fin, l, c, f, q, y, c0, c1, c2, c3, c4, c5, c6, c7⟩ (show (0 : Int) ≤ 1 from by decide) (show (1 : Int) ≤ 30 from by decide)
  have hbd : (True) := by
    simp [rightB, askN, nrB, smB, drB, FN.zero, knownB, askDs] at hr
    first | trivial | omega | exact ⟨by omega, hr.2⟩
  have hs0 := hwf.s0
  have ho0 := hwf.o0
  have hl0 := hwf.l0
  have hc0 := hwf.c0
  have hf0 := hwf.f0
  have hq0 := hwf.q0
  have hy0 := hwf.y0
  simp only at hs0 ho0 hl0 hc0 hf0 hq0 hy0
  have hcid : Byt (cidL ⟨1, s, o, fin, l, c, f, q, y, c0, c1, c2, c3, c4, c5, c6, c7⟩) := hwf.cid
  have hE : bs ++ oneS ⟨1, s, o, fin, l, c, f, q, y, c0, c1, c2, c3, c4, c5, c6, c7⟩ ds rs = bs ++ (putS (wkS ⟨1, s, o, fin, l, c, f, q, y, c0, c1, c2, c3, c4, c5, c6, c7⟩) ++ bodyS ⟨1, s, o, fin, l, c, f, q, y, c0, c1, c2, c3, c4, c5, c6, c7⟩ ds rs) := rfl
  have hbod : bodyS ⟨1, s, o, fin, l, c, f, q, y, c0, c1, c2, c3, c4, c5, c6, c7⟩ ds rs = [] := by
    simp [bodyS]
  rw [hbod] at hE
  have HE := Lib.hid hE
  clear hE hbod hr
  have hW := h
  have hB0 : Below w.heap.size w (w.alloc (.cells (frL ⟨1, s, o, fin, l, c, f, q, y, c0, c1, c2, c3, c4, c5, c6, c7⟩ d r).toArray 46)) := (Below.refl _ _).alloc (Nat.le_refl _) _
  have hA0 : At (w.alloc (.cells (frL ⟨1, s, o, fin, l, c, f, q, y, c0, c1, c2, c3, c4, c5, c6, c7⟩ d r).toArray 46)) w.heap.size 46 (frL ⟨1, s, o, fin, l, c, f, q, y, c0, c1, c2, c3, c4, c5, c6, c7⟩ d r) := At.new w _ _
  have hx0 := WSx.refl hW hB0
  have hM : w.heap.size ≤ (w.alloc (.cells (frL ⟨1, s, o, fin, l, c, f, q, y, c0, c1, c2, c3, c4, c5, c6, c7⟩ d r).toArray 46)).heap.size := hB0.size
  have hg : w.heap.size < (w.alloc (.cells (frL ⟨1, s, o, fin, l, c, f, q, y, c0, c1, c2, c3, c4, c5, c6, c7⟩ d r).toArray 46)).heap.size := hA0.lt
  have hn0 := hW.not_new (g := w.heap.size) (Nat.le_refl _)
  have hwk := wk_any ⟨1, s, o, fin, l, c, f, q, y, c0, c1, c2, c3, c4, c5, c6, c7⟩ d r
  obtain ⟨kv, hkv⟩ : ∃ x, wkS ⟨1, s, o, fin, l, c, f, q, y, c0, c1, c2, c3, c4, c5, c6, c7⟩ = x := ⟨_, rfl⟩
  rw [hkv] at hwb hwk HE
  clear hkv
  have HWK := Lib.hid (fun W => hwk W (show (0 : Int) ≤ 1 from by decide) (show (1 : Int) ≤ 30 from by decide) ho0)
  clear hwk
  have HWF := Lib.hid hwf
  have HDT := Lib.hid hdt
  have HRG := Lib.hid hrg
  have HCID := Lib.hid hcid
  clear hwf hdt hrg hcid
  obtain ⟨L, hL⟩ : ∃ L, frL ⟨1, s, o, fin, l, c, f, q, y, c0, c1, c2, c3, c4, c5, c6, c7⟩ d r = L := ⟨_, rfl⟩
  have hLl : L.length = 19 := by rw [← hL]; rfl
  have hfv : frV ⟨1, s, o, fin, l, c, f, q, y, c0, c1, c2, c3, c4, c5, c6, c7⟩ d r = .agg L.toArray := by rw [← hL]; rfl
  have hl_0 : L[0]? = some (.int .i64 1) := by rw [← hL]; rfl
  rw [hL] at hA0 hB0 hx0 hM hg
  rw [hfv] at HWK ⊢
  clear hL hfv
  have HL0 := Lib.hid hl_0
  clear hl_0
  have HLl := Lib.hid hLl
  clear hLl
  obtain ⟨dA, dn, dc⟩ := d
  obtain ⟨M, hMM⟩ : ∃ M, (w.alloc (.cells L.toArray 46)).heap.size = M := ⟨_, rfl⟩
  rw [hMM] at hx0 hM hg
  have HMM := Lib.hid hMM
  clear hMM
  go_enter Try.func32, Try.ntmps32
  go_wp2_with (first | ((with_reducible refine at_ld ?_); refine ld_fr_g _ _ (by rfl) (by rfl) hA0 HLl.out ?_) | fail)
  refine (HWK.out _).mono ?_
  rintro e w1 ⟨rfl, hb1⟩
  have hA1 := hA0.below hb1 (by rw [HMM.out]; exact hg)
  have hx1 := hx0.below hb1
  clear hA0 hx0 hb1
  have hm1 := hx1.2.2.2
  go_wp2_with fail
  refine (wvar_yes base p T v bs kv _ hx1.1 (by omega) hwb.1 (by omega) (by omega)).mono ?_
  rintro e w2 hw2
  obtain ⟨v2, rfl, hx2, hk2⟩ := hx1.step hM hw2
  have hA2 := hA1.kept hk2 (hx1.apart hg hn0)
  have hm2 := hx2.2.2.2
  clear hw2 hk2 hx1 hA1
  have e0 := (hA2.cell 0).trans HL0.out
  go_wp2_with fail
  go_end0
  have hfin := hx2.post hM (.tuple #[])
  try simp only [List.append_assoc] at hfin
  have hEE := HE.out
  try simp only [List.append_assoc] at hEE
  rw [hEE]
  simpa using hfin
set_option maxRecDepth 100000 in
set_option maxHeartbeats 1000000 in
theorem write_30 (base p : Nat) (T : TypeId) (v : Value) (bs : List Int) (s o l c f q y c0 c1 c2 c3 c4 c5 c6 c7 : Int) (fin : Bool) (d r : Sl) (ds : List Int) (rs : RS) (w : World) (h : Wtr w base p T v bs) (hl : bs.length ≤ 100000000000)
    (hf : Fits w (fun b => ¬ WS p v b) ⟨30, s, o, fin, l, c, f, q, y, c0, c1, c2, c3, c4, c5, c6, c7⟩ d r ds rs) (hr : rightB ⟨30, s, o, fin, l, c, f, q, y, c0, c1, c2, c3, c4, c5, c6, c7⟩ ds rs = true) (hbase : base ≤ w.heap.size) :
    Calls Try.prog 32 #[.pointer (some ⟨p, 0, none⟩), frV ⟨30, s, o, fin, l, c, f, q, y, c0, c1, c2, c3, c4, c5, c6, c7⟩ d r] w (WPost (.tuple #[]) w base p T v (bs ++ oneS ⟨30, s, o, fin, l, c, f, q, y, c0, c1, c2, c3, c4, c5, c6, c7⟩ ds rs)) := by
  obtain ⟨hwf, hdt, hrg⟩ := hf
  have hwb := wkS_bd ⟨30, s, o, fin, l, c, f, q, y, c0, c1, c2, c3, c4, c5, c6, c7⟩ (show (0 : Int) ≤ 30 from by decide) (show (30 : Int) ≤ 30 from by decide)
  have hbd : (True) := by
    simp [rightB, askN, nrB, smB, drB, FN.zero, knownB, askDs] at hr
    first | trivial | omega | exact ⟨by omega, hr.2⟩
  have hs0 := hwf.s0
  have ho0 := hwf.o0
  have hl0 := hwf.l0
  have hc0 := hwf.c0
  have hf0 := hwf.f0
  have hq0 := hwf.q0
  have hy0 := hwf.y0
  simp only at hs0 ho0 hl0 hc0 hf0 hq0 hy0
  have hcid : Byt (cidL ⟨30, s, o, fin, l, c, f, q, y, c0, c1, c2, c3, c4, c5, c6, c7⟩) := hwf.cid
  have hE : bs ++ oneS ⟨30, s, o, fin, l, c, f, q, y, c0, c1, c2, c3, c4, c5, c6, c7⟩ ds rs = bs ++ (putS (wkS ⟨30, s, o, fin, l, c, f, q, y, c0, c1, c2, c3, c4, c5, c6, c7⟩) ++ bodyS ⟨30, s, o, fin, l, c, f, q, y, c0, c1, c2, c3, c4, c5, c6, c7⟩ ds rs) := rfl
  have hbod : bodyS ⟨30, s, o, fin, l, c, f, q, y, c0, c1, c2, c3, c4, c5, c6, c7⟩ ds rs = [] := by
    simp [bodyS]
  rw [hbod] at hE
  have HE := Lib.hid hE
  clear hE hbod hr
  have hW := h
  have hB0 : Below w.heap.size w (w.alloc (.cells (frL ⟨30, s, o, fin, l, c, f, q, y, c0, c1, c2, c3, c4, c5, c6, c7⟩ d r).toArray 46)) := (Below.refl _ _).alloc (Nat.le_refl _) _
  have hA0 : At (w.alloc (.cells (frL ⟨30, s, o, fin, l, c, f, q, y, c0, c1, c2, c3, c4, c5, c6, c7⟩ d r).toArray 46)) w.heap.size 46 (frL ⟨30, s, o, fin, l, c, f, q, y, c0, c1, c2, c3, c4, c5, c6, c7⟩ d r) := At.new w _ _
  have hx0 := WSx.refl hW hB0
  have hM : w.heap.size ≤ (w.alloc (.cells (frL ⟨30, s, o, fin, l, c, f, q, y, c0, c1, c2, c3, c4, c5, c6, c7⟩ d r).toArray 46)).heap.size := hB0.size
  have hg : w.heap.size < (w.alloc (.cells (frL ⟨30, s, o, fin, l, c, f, q, y, c0, c1, c2, c3, c4, c5, c6, c7⟩ d r).toArray 46)).heap.size := hA0.lt
  have hn0 := hW.not_new (g := w.heap.size) (Nat.le_refl _)
  have hwk := wk_any ⟨30, s, o, fin, l, c, f, q, y, c0, c1, c2, c3, c4, c5, c6, c7⟩ d r
  obtain ⟨kv, hkv⟩ : ∃ x, wkS ⟨30, s, o, fin, l, c, f, q, y, c0, c1, c2, c3, c4, c5, c6, c7⟩ = x := ⟨_, rfl⟩
  rw [hkv] at hwb hwk HE
  clear hkv
  have HWK := Lib.hid (fun W => hwk W (show (0 : Int) ≤ 30 from by decide) (show (30 : Int) ≤ 30 from by decide) ho0)
  clear hwk
  have HWF := Lib.hid hwf
  have HDT := Lib.hid hdt
  have HRG := Lib.hid hrg
  have HCID := Lib.hid hcid
  clear hwf hdt hrg hcid
  obtain ⟨L, hL⟩ : ∃ L, frL ⟨30, s, o, fin, l, c, f, q, y, c0, c1, c2, c3, c4, c5, c6, c7⟩ d r = L := ⟨_, rfl⟩
  have hLl : L.length = 19 := by rw [← hL]; rfl
  have hfv : frV ⟨30, s, o, fin, l, c, f, q, y, c0, c1, c2, c3, c4, c5, c6, c7⟩ d r = .agg L.toArray := by rw [← hL]; rfl
  have hl_0 : L[0]? = some (.int .i64 30) := by rw [← hL]; rfl
  rw [hL] at hA0 hB0 hx0 hM hg
  rw [hfv] at HWK ⊢
  clear hL hfv
  have HL0 := Lib.hid hl_0
  clear hl_0
  have HLl := Lib.hid hLl
  clear hLl
  obtain ⟨dA, dn, dc⟩ := d
  obtain ⟨M, hMM⟩ : ∃ M, (w.alloc (.cells L.toArray 46)).heap.size = M := ⟨_, rfl⟩
  rw [hMM] at hx0 hM hg
  have HMM := Lib.hid hMM
  clear hMM
  go_enter Try.func32, Try.ntmps32
  go_wp2_with (first | ((with_reducible refine at_ld ?_); refine ld_fr_g _ _ (by rfl) (by rfl) hA0 HLl.out ?_) | fail)
  refine (HWK.out _).mono ?_
  rintro e w1 ⟨rfl, hb1⟩
  have hA1 := hA0.below hb1 (by rw [HMM.out]; exact hg)
  have hx1 := hx0.below hb1
  clear hA0 hx0 hb1
  have hm1 := hx1.2.2.2
  go_wp2_with fail
  refine (wvar_yes base p T v bs kv _ hx1.1 (by omega) hwb.1 (by omega) (by omega)).mono ?_
  rintro e w2 hw2
  obtain ⟨v2, rfl, hx2, hk2⟩ := hx1.step hM hw2
  have hA2 := hA1.kept hk2 (hx1.apart hg hn0)
  have hm2 := hx2.2.2.2
  clear hw2 hk2 hx1 hA1
  have e0 := (hA2.cell 0).trans HL0.out
  go_wp2_with fail
  go_end0
  have hfin := hx2.post hM (.tuple #[])
  try simp only [List.append_assoc] at hfin
  have hEE := HE.out
  try simp only [List.append_assoc] at hEE
  rw [hEE]
  simpa using hfin
set_option maxRecDepth 100000 in
set_option maxHeartbeats 1000000 in
theorem write_2 (base p : Nat) (T : TypeId) (v : Value) (bs : List Int) (s o l c f q y c0 c1 c2 c3 c4 c5 c6 c7 : Int) (fin : Bool) (d r : Sl) (ds : List Int) (rs : RS) (w : World) (h : Wtr w base p T v bs) (hl : bs.length ≤ 100000000000)
    (hf : Fits w (fun b => ¬ WS p v b) ⟨2, s, o, fin, l, c, f, q, y, c0, c1, c2, c3, c4, c5, c6, c7⟩ d r ds rs) (hr : rightB ⟨2, s, o, fin, l, c, f, q, y, c0, c1, c2, c3, c4, c5, c6, c7⟩ ds rs = true) (hbase : base ≤ w.heap.size) :
    Calls Try.prog 32 #[.pointer (some ⟨p, 0, none⟩), frV ⟨2, s, o, fin, l, c, f, q, y, c0, c1, c2, c3, c4, c5, c6, c7⟩ d r] w (WPost (.tuple #[]) w base p T v (bs ++ oneS ⟨2, s, o, fin, l, c, f, q, y, c0, c1, c2, c3, c4, c5, c6, c7⟩ ds rs)) := by
  obtain ⟨hwf, hdt, hrg⟩ := hf
  have hwb := wkS_bd ⟨2, s, o, fin, l, c, f, q, y, c0, c1, c2, c3, c4, c5, c6, c7⟩ (show (0 : Int) ≤ 2 from by decide) (show (2 : Int) ≤ 30 from by decide)
  have hbd : (y ≤ 4611686018427387903 ∧ rrB rs = true) := by
    simp [rightB, askN, nrB, smB, drB, FN.zero, knownB, askDs] at hr
    first | trivial | omega | exact ⟨by omega, hr.2⟩
  have hs0 := hwf.s0
  have ho0 := hwf.o0
  have hl0 := hwf.l0
  have hc0 := hwf.c0
  have hf0 := hwf.f0
  have hq0 := hwf.q0
  have hy0 := hwf.y0
  simp only at hs0 ho0 hl0 hc0 hf0 hq0 hy0
  have hcid : Byt (cidL ⟨2, s, o, fin, l, c, f, q, y, c0, c1, c2, c3, c4, c5, c6, c7⟩) := hwf.cid
  have hE : bs ++ oneS ⟨2, s, o, fin, l, c, f, q, y, c0, c1, c2, c3, c4, c5, c6, c7⟩ ds rs = bs ++ (putS (wkS ⟨2, s, o, fin, l, c, f, q, y, c0, c1, c2, c3, c4, c5, c6, c7⟩) ++ bodyS ⟨2, s, o, fin, l, c, f, q, y, c0, c1, c2, c3, c4, c5, c6, c7⟩ ds rs) := rfl
  have hbod : bodyS ⟨2, s, o, fin, l, c, f, q, y, c0, c1, c2, c3, c4, c5, c6, c7⟩ ds rs = putL (ackV y rs) := by
    simp [bodyS]
  rw [hbod] at hE
  have HE := Lib.hid hE
  clear hE hbod hr
  obtain ⟨hbd, hrrb⟩ := hbd
  have HRB := Lib.hid hrrb
  clear hrrb
  have hW := h
  have hB0 : Below w.heap.size w (w.alloc (.cells (frL ⟨2, s, o, fin, l, c, f, q, y, c0, c1, c2, c3, c4, c5, c6, c7⟩ d r).toArray 46)) := (Below.refl _ _).alloc (Nat.le_refl _) _
  have hA0 : At (w.alloc (.cells (frL ⟨2, s, o, fin, l, c, f, q, y, c0, c1, c2, c3, c4, c5, c6, c7⟩ d r).toArray 46)) w.heap.size 46 (frL ⟨2, s, o, fin, l, c, f, q, y, c0, c1, c2, c3, c4, c5, c6, c7⟩ d r) := At.new w _ _
  have hx0 := WSx.refl hW hB0
  have hM : w.heap.size ≤ (w.alloc (.cells (frL ⟨2, s, o, fin, l, c, f, q, y, c0, c1, c2, c3, c4, c5, c6, c7⟩ d r).toArray 46)).heap.size := hB0.size
  have hg : w.heap.size < (w.alloc (.cells (frL ⟨2, s, o, fin, l, c, f, q, y, c0, c1, c2, c3, c4, c5, c6, c7⟩ d r).toArray 46)).heap.size := hA0.lt
  have hn0 := hW.not_new (g := w.heap.size) (Nat.le_refl _)
  have hwk := wk_any ⟨2, s, o, fin, l, c, f, q, y, c0, c1, c2, c3, c4, c5, c6, c7⟩ d r
  obtain ⟨kv, hkv⟩ : ∃ x, wkS ⟨2, s, o, fin, l, c, f, q, y, c0, c1, c2, c3, c4, c5, c6, c7⟩ = x := ⟨_, rfl⟩
  rw [hkv] at hwb hwk HE
  clear hkv
  have HWK := Lib.hid (fun W => hwk W (show (0 : Int) ≤ 2 from by decide) (show (2 : Int) ≤ 30 from by decide) ho0)
  clear hwk
  have HWF := Lib.hid hwf
  have HDT := Lib.hid hdt
  have HRG := Lib.hid hrg
  have HCID := Lib.hid hcid
  clear hwf hdt hrg hcid
  obtain ⟨L, hL⟩ : ∃ L, frL ⟨2, s, o, fin, l, c, f, q, y, c0, c1, c2, c3, c4, c5, c6, c7⟩ d r = L := ⟨_, rfl⟩
  have hLl : L.length = 19 := by rw [← hL]; rfl
  have hfv : frV ⟨2, s, o, fin, l, c, f, q, y, c0, c1, c2, c3, c4, c5, c6, c7⟩ d r = .agg L.toArray := by rw [← hL]; rfl
  have hl_0 : L[0]? = some (.int .i64 2) := by rw [← hL]; rfl
  have hak := fun (v1 : Value) (b1 : List Int) (W : World) (a1 : Wtr W base p T v1 b1) (a2 : b1.length ≤ 1000000000000) (a3 : InR W (fun b => ¬ WS p v1 b) r rs) (a4 : base ≤ W.heap.size) => wack_any (fun _ => True) base p T v1 b1 ⟨2, s, o, fin, l, c, f, q, y, c0, c1, c2, c3, c4, c5, c6, c7⟩ d r rs W a1 a2 a3 HRB.out hy0 hbd a4
  rw [hL] at hA0 hB0 hx0 hM hg
  rw [hfv] at hak
  have HAK := Lib.hid hak
  clear hak
  rw [hfv] at HWK ⊢
  clear hL hfv
  have HL0 := Lib.hid hl_0
  clear hl_0
  have HLl := Lib.hid hLl
  clear hLl
  obtain ⟨dA, dn, dc⟩ := d
  obtain ⟨M, hMM⟩ : ∃ M, (w.alloc (.cells L.toArray 46)).heap.size = M := ⟨_, rfl⟩
  rw [hMM] at hx0 hM hg
  have HMM := Lib.hid hMM
  clear hMM
  go_enter Try.func32, Try.ntmps32
  go_wp2_with (first | ((with_reducible refine at_ld ?_); refine ld_fr_g _ _ (by rfl) (by rfl) hA0 HLl.out ?_) | fail)
  refine (HWK.out _).mono ?_
  rintro e w1 ⟨rfl, hb1⟩
  have hA1 := hA0.below hb1 (by rw [HMM.out]; exact hg)
  have hx1 := hx0.below hb1
  clear hA0 hx0 hb1
  have hm1 := hx1.2.2.2
  go_wp2_with fail
  refine (wvar_yes base p T v bs kv _ hx1.1 (by omega) hwb.1 (by omega) (by omega)).mono ?_
  rintro e w2 hw2
  obtain ⟨v2, rfl, hx2, hk2⟩ := hx1.step hM hw2
  have hA2 := hA1.kept hk2 (hx1.apart hg hn0)
  have hm2 := hx2.2.2.2
  clear hw2 hk2 hx1 hA1
  have e0 := (hA2.cell 0).trans HL0.out
  go_wp2_with (first | ((with_reducible refine at_ld ?_); refine ld_fr_g _ _ (by rfl) (by rfl) hA2 HLl.out ?_) | fail)
  have hri := HRG.out.kept hx2.2.2.1 (fun b hb => hb)
  have hri2 : InR w2 (fun b => ¬ WS p v2 b) r rs := ⟨hri.rd.mono_lt HRG.out.rd (fun b hb hp => hx2.apart (by omega) hp), hri.lc, hri.cm, hri.nil⟩
  refine (HAK.out v2 _ _ hx2.1 (by simp only [List.length_append, List.length_cons, List.length_nil]; have z0 := putS_le kv; omega) hri2 (by omega)).mono ?_
  rintro e w3 hw3
  obtain ⟨v3, rfl, hx3, hk3⟩ := hx2.step hM hw3
  have hA3 := hA2.kept hk3 (hx2.apart hg hn0)
  have hm3 := hx3.2.2.2
  clear hw3 hk3 hx2 hA2
  go_wp2_with fail
  go_end0
  have hfin := hx3.post hM (.tuple #[])
  try simp only [List.append_assoc] at hfin
  have hEE := HE.out
  try simp only [List.append_assoc] at hEE
  rw [hEE]
  exact hfin
set_option maxRecDepth 100000 in
set_option maxHeartbeats 1000000 in
theorem write_4 (base p : Nat) (T : TypeId) (v : Value) (bs : List Int) (s o l c f q y c0 c1 c2 c3 c4 c5 c6 c7 : Int) (fin : Bool) (d r : Sl) (ds : List Int) (rs : RS) (w : World) (h : Wtr w base p T v bs) (hl : bs.length ≤ 100000000000)
    (hf : Fits w (fun b => ¬ WS p v b) ⟨4, s, o, fin, l, c, f, q, y, c0, c1, c2, c3, c4, c5, c6, c7⟩ d r ds rs) (hr : rightB ⟨4, s, o, fin, l, c, f, q, y, c0, c1, c2, c3, c4, c5, c6, c7⟩ ds rs = true) (hbase : base ≤ w.heap.size) :
    Calls Try.prog 32 #[.pointer (some ⟨p, 0, none⟩), frV ⟨4, s, o, fin, l, c, f, q, y, c0, c1, c2, c3, c4, c5, c6, c7⟩ d r] w (WPost (.tuple #[]) w base p T v (bs ++ oneS ⟨4, s, o, fin, l, c, f, q, y, c0, c1, c2, c3, c4, c5, c6, c7⟩ ds rs)) := by
  obtain ⟨hwf, hdt, hrg⟩ := hf
  have hwb := wkS_bd ⟨4, s, o, fin, l, c, f, q, y, c0, c1, c2, c3, c4, c5, c6, c7⟩ (show (0 : Int) ≤ 4 from by decide) (show (4 : Int) ≤ 30 from by decide)
  have hbd : (s ≤ 4611686018427387903 ∧ c ≤ 4611686018427387903 ∧ f ≤ 4611686018427387903) := by
    simp [rightB, askN, nrB, smB, drB, FN.zero, knownB, askDs] at hr
    first | trivial | omega | exact ⟨by omega, hr.2⟩
  have hs0 := hwf.s0
  have ho0 := hwf.o0
  have hl0 := hwf.l0
  have hc0 := hwf.c0
  have hf0 := hwf.f0
  have hq0 := hwf.q0
  have hy0 := hwf.y0
  simp only at hs0 ho0 hl0 hc0 hf0 hq0 hy0
  have hcid : Byt (cidL ⟨4, s, o, fin, l, c, f, q, y, c0, c1, c2, c3, c4, c5, c6, c7⟩) := hwf.cid
  have hE : bs ++ oneS ⟨4, s, o, fin, l, c, f, q, y, c0, c1, c2, c3, c4, c5, c6, c7⟩ ds rs = bs ++ (putS (wkS ⟨4, s, o, fin, l, c, f, q, y, c0, c1, c2, c3, c4, c5, c6, c7⟩) ++ bodyS ⟨4, s, o, fin, l, c, f, q, y, c0, c1, c2, c3, c4, c5, c6, c7⟩ ds rs) := rfl
  have hbod : bodyS ⟨4, s, o, fin, l, c, f, q, y, c0, c1, c2, c3, c4, c5, c6, c7⟩ ds rs = putL [s, c, f] := by
    simp [bodyS]
  rw [hbod] at hE
  have HE := Lib.hid hE
  clear hE hbod hr
  have hW := h
  have hB0 : Below w.heap.size w (w.alloc (.cells (frL ⟨4, s, o, fin, l, c, f, q, y, c0, c1, c2, c3, c4, c5, c6, c7⟩ d r).toArray 46)) := (Below.refl _ _).alloc (Nat.le_refl _) _
  have hA0 : At (w.alloc (.cells (frL ⟨4, s, o, fin, l, c, f, q, y, c0, c1, c2, c3, c4, c5, c6, c7⟩ d r).toArray 46)) w.heap.size 46 (frL ⟨4, s, o, fin, l, c, f, q, y, c0, c1, c2, c3, c4, c5, c6, c7⟩ d r) := At.new w _ _
  have hx0 := WSx.refl hW hB0
  have hM : w.heap.size ≤ (w.alloc (.cells (frL ⟨4, s, o, fin, l, c, f, q, y, c0, c1, c2, c3, c4, c5, c6, c7⟩ d r).toArray 46)).heap.size := hB0.size
  have hg : w.heap.size < (w.alloc (.cells (frL ⟨4, s, o, fin, l, c, f, q, y, c0, c1, c2, c3, c4, c5, c6, c7⟩ d r).toArray 46)).heap.size := hA0.lt
  have hn0 := hW.not_new (g := w.heap.size) (Nat.le_refl _)
  have hwk := wk_any ⟨4, s, o, fin, l, c, f, q, y, c0, c1, c2, c3, c4, c5, c6, c7⟩ d r
  obtain ⟨kv, hkv⟩ : ∃ x, wkS ⟨4, s, o, fin, l, c, f, q, y, c0, c1, c2, c3, c4, c5, c6, c7⟩ = x := ⟨_, rfl⟩
  rw [hkv] at hwb hwk HE
  clear hkv
  have HWK := Lib.hid (fun W => hwk W (show (0 : Int) ≤ 4 from by decide) (show (4 : Int) ≤ 30 from by decide) ho0)
  clear hwk
  have HWF := Lib.hid hwf
  have HDT := Lib.hid hdt
  have HRG := Lib.hid hrg
  have HCID := Lib.hid hcid
  clear hwf hdt hrg hcid
  obtain ⟨L, hL⟩ : ∃ L, frL ⟨4, s, o, fin, l, c, f, q, y, c0, c1, c2, c3, c4, c5, c6, c7⟩ d r = L := ⟨_, rfl⟩
  have hLl : L.length = 19 := by rw [← hL]; rfl
  have hfv : frV ⟨4, s, o, fin, l, c, f, q, y, c0, c1, c2, c3, c4, c5, c6, c7⟩ d r = .agg L.toArray := by rw [← hL]; rfl
  have hl_0 : L[0]? = some (.int .i64 4) := by rw [← hL]; rfl
  have hl_1 : L[1]? = some (.int .u64 s) := by rw [← hL]; rfl
  have hl_6 : L[6]? = some (.int .u64 c) := by rw [← hL]; rfl
  have hl_7 : L[7]? = some (.int .u64 f) := by rw [← hL]; rfl
  rw [hL] at hA0 hB0 hx0 hM hg
  rw [hfv] at HWK ⊢
  clear hL hfv
  have HL0 := Lib.hid hl_0
  clear hl_0
  have HL1 := Lib.hid hl_1
  clear hl_1
  have HL6 := Lib.hid hl_6
  clear hl_6
  have HL7 := Lib.hid hl_7
  clear hl_7
  have HLl := Lib.hid hLl
  clear hLl
  obtain ⟨dA, dn, dc⟩ := d
  obtain ⟨M, hMM⟩ : ∃ M, (w.alloc (.cells L.toArray 46)).heap.size = M := ⟨_, rfl⟩
  rw [hMM] at hx0 hM hg
  have HMM := Lib.hid hMM
  clear hMM
  go_enter Try.func32, Try.ntmps32
  go_wp2_with (first | ((with_reducible refine at_ld ?_); refine ld_fr_g _ _ (by rfl) (by rfl) hA0 HLl.out ?_) | fail)
  refine (HWK.out _).mono ?_
  rintro e w1 ⟨rfl, hb1⟩
  have hA1 := hA0.below hb1 (by rw [HMM.out]; exact hg)
  have hx1 := hx0.below hb1
  clear hA0 hx0 hb1
  have hm1 := hx1.2.2.2
  go_wp2_with fail
  refine (wvar_yes base p T v bs kv _ hx1.1 (by omega) hwb.1 (by omega) (by omega)).mono ?_
  rintro e w2 hw2
  obtain ⟨v2, rfl, hx2, hk2⟩ := hx1.step hM hw2
  have hA2 := hA1.kept hk2 (hx1.apart hg hn0)
  have hm2 := hx2.2.2.2
  clear hw2 hk2 hx1 hA1
  have e0 := (hA2.cell 0).trans HL0.out
  have f1 := (hA2.cell 1).trans HL1.out
  have f6 := (hA2.cell 6).trans HL6.out
  have f7 := (hA2.cell 7).trans HL7.out
  go_wp2_with fail
  have hU := UsP.new w2 (fun b => ¬ WS p v2 b) 22 [s, c, f] (by intro x hx; simp at hx; omega) _ rfl w2.heap.size rfl (hx2.1.not_new (Nat.le_refl _))
  have hxa := hx2.alloc (.cells #[.int .u64 s, .int .u64 c, .int .u64 f] 22)
  have hAa := hA2.alloc (.cells #[.int .u64 s, .int .u64 c, .int .u64 f] 22)
  refine (wvars_any base p T v2 _ [s, c, f] _ 3 3 _ hxa.1 (by simp only [List.length_append, List.length_cons, List.length_nil]; have z0 := putS_le kv; omega) (by omega) (by omega) hU (by intro x hx; simp at hx; omega) (by have := hxa.2.2.2; omega)).mono ?_
  rintro e w3 hw3
  obtain ⟨v3, rfl, hx3, hk3⟩ := hxa.step hM hw3
  have hA3 := hAa.kept hk3 (hxa.apart hg hn0)
  have hm3 := hx3.2.2.2
  clear hw3 hk3 hx2 hA2 hxa hAa hU
  clear f1 f6 f7
  go_wp2_with fail
  go_end0
  have hfin := hx3.post hM (.tuple #[])
  try simp only [List.append_assoc] at hfin
  have hEE := HE.out
  try simp only [List.append_assoc] at hEE
  rw [hEE]
  exact hfin
set_option maxRecDepth 100000 in
set_option maxHeartbeats 1000000 in
theorem write_5 (base p : Nat) (T : TypeId) (v : Value) (bs : List Int) (s o l c f q y c0 c1 c2 c3 c4 c5 c6 c7 : Int) (fin : Bool) (d r : Sl) (ds : List Int) (rs : RS) (w : World) (h : Wtr w base p T v bs) (hl : bs.length ≤ 100000000000)
    (hf : Fits w (fun b => ¬ WS p v b) ⟨5, s, o, fin, l, c, f, q, y, c0, c1, c2, c3, c4, c5, c6, c7⟩ d r ds rs) (hr : rightB ⟨5, s, o, fin, l, c, f, q, y, c0, c1, c2, c3, c4, c5, c6, c7⟩ ds rs = true) (hbase : base ≤ w.heap.size) :
    Calls Try.prog 32 #[.pointer (some ⟨p, 0, none⟩), frV ⟨5, s, o, fin, l, c, f, q, y, c0, c1, c2, c3, c4, c5, c6, c7⟩ d r] w (WPost (.tuple #[]) w base p T v (bs ++ oneS ⟨5, s, o, fin, l, c, f, q, y, c0, c1, c2, c3, c4, c5, c6, c7⟩ ds rs)) := by
  obtain ⟨hwf, hdt, hrg⟩ := hf
  have hwb := wkS_bd ⟨5, s, o, fin, l, c, f, q, y, c0, c1, c2, c3, c4, c5, c6, c7⟩ (show (0 : Int) ≤ 5 from by decide) (show (5 : Int) ≤ 30 from by decide)
  have hbd : (s ≤ 4611686018427387903 ∧ c ≤ 4611686018427387903) := by
    simp [rightB, askN, nrB, smB, drB, FN.zero, knownB, askDs] at hr
    first | trivial | omega | exact ⟨by omega, hr.2⟩
  have hs0 := hwf.s0
  have ho0 := hwf.o0
  have hl0 := hwf.l0
  have hc0 := hwf.c0
  have hf0 := hwf.f0
  have hq0 := hwf.q0
  have hy0 := hwf.y0
  simp only at hs0 ho0 hl0 hc0 hf0 hq0 hy0
  have hcid : Byt (cidL ⟨5, s, o, fin, l, c, f, q, y, c0, c1, c2, c3, c4, c5, c6, c7⟩) := hwf.cid
  have hE : bs ++ oneS ⟨5, s, o, fin, l, c, f, q, y, c0, c1, c2, c3, c4, c5, c6, c7⟩ ds rs = bs ++ (putS (wkS ⟨5, s, o, fin, l, c, f, q, y, c0, c1, c2, c3, c4, c5, c6, c7⟩) ++ bodyS ⟨5, s, o, fin, l, c, f, q, y, c0, c1, c2, c3, c4, c5, c6, c7⟩ ds rs) := rfl
  have hbod : bodyS ⟨5, s, o, fin, l, c, f, q, y, c0, c1, c2, c3, c4, c5, c6, c7⟩ ds rs = putL [s, c] := by
    simp [bodyS]
  rw [hbod] at hE
  have HE := Lib.hid hE
  clear hE hbod hr
  have hW := h
  have hB0 : Below w.heap.size w (w.alloc (.cells (frL ⟨5, s, o, fin, l, c, f, q, y, c0, c1, c2, c3, c4, c5, c6, c7⟩ d r).toArray 46)) := (Below.refl _ _).alloc (Nat.le_refl _) _
  have hA0 : At (w.alloc (.cells (frL ⟨5, s, o, fin, l, c, f, q, y, c0, c1, c2, c3, c4, c5, c6, c7⟩ d r).toArray 46)) w.heap.size 46 (frL ⟨5, s, o, fin, l, c, f, q, y, c0, c1, c2, c3, c4, c5, c6, c7⟩ d r) := At.new w _ _
  have hx0 := WSx.refl hW hB0
  have hM : w.heap.size ≤ (w.alloc (.cells (frL ⟨5, s, o, fin, l, c, f, q, y, c0, c1, c2, c3, c4, c5, c6, c7⟩ d r).toArray 46)).heap.size := hB0.size
  have hg : w.heap.size < (w.alloc (.cells (frL ⟨5, s, o, fin, l, c, f, q, y, c0, c1, c2, c3, c4, c5, c6, c7⟩ d r).toArray 46)).heap.size := hA0.lt
  have hn0 := hW.not_new (g := w.heap.size) (Nat.le_refl _)
  have hwk := wk_any ⟨5, s, o, fin, l, c, f, q, y, c0, c1, c2, c3, c4, c5, c6, c7⟩ d r
  obtain ⟨kv, hkv⟩ : ∃ x, wkS ⟨5, s, o, fin, l, c, f, q, y, c0, c1, c2, c3, c4, c5, c6, c7⟩ = x := ⟨_, rfl⟩
  rw [hkv] at hwb hwk HE
  clear hkv
  have HWK := Lib.hid (fun W => hwk W (show (0 : Int) ≤ 5 from by decide) (show (5 : Int) ≤ 30 from by decide) ho0)
  clear hwk
  have HWF := Lib.hid hwf
  have HDT := Lib.hid hdt
  have HRG := Lib.hid hrg
  have HCID := Lib.hid hcid
  clear hwf hdt hrg hcid
  obtain ⟨L, hL⟩ : ∃ L, frL ⟨5, s, o, fin, l, c, f, q, y, c0, c1, c2, c3, c4, c5, c6, c7⟩ d r = L := ⟨_, rfl⟩
  have hLl : L.length = 19 := by rw [← hL]; rfl
  have hfv : frV ⟨5, s, o, fin, l, c, f, q, y, c0, c1, c2, c3, c4, c5, c6, c7⟩ d r = .agg L.toArray := by rw [← hL]; rfl
  have hl_0 : L[0]? = some (.int .i64 5) := by rw [← hL]; rfl
  have hl_1 : L[1]? = some (.int .u64 s) := by rw [← hL]; rfl
  have hl_6 : L[6]? = some (.int .u64 c) := by rw [← hL]; rfl
  rw [hL] at hA0 hB0 hx0 hM hg
  rw [hfv] at HWK ⊢
  clear hL hfv
  have HL0 := Lib.hid hl_0
  clear hl_0
  have HL1 := Lib.hid hl_1
  clear hl_1
  have HL6 := Lib.hid hl_6
  clear hl_6
  have HLl := Lib.hid hLl
  clear hLl
  obtain ⟨dA, dn, dc⟩ := d
  obtain ⟨M, hMM⟩ : ∃ M, (w.alloc (.cells L.toArray 46)).heap.size = M := ⟨_, rfl⟩
  rw [hMM] at hx0 hM hg
  have HMM := Lib.hid hMM
  clear hMM
  go_enter Try.func32, Try.ntmps32
  go_wp2_with (first | ((with_reducible refine at_ld ?_); refine ld_fr_g _ _ (by rfl) (by rfl) hA0 HLl.out ?_) | fail)
  refine (HWK.out _).mono ?_
  rintro e w1 ⟨rfl, hb1⟩
  have hA1 := hA0.below hb1 (by rw [HMM.out]; exact hg)
  have hx1 := hx0.below hb1
  clear hA0 hx0 hb1
  have hm1 := hx1.2.2.2
  go_wp2_with fail
  refine (wvar_yes base p T v bs kv _ hx1.1 (by omega) hwb.1 (by omega) (by omega)).mono ?_
  rintro e w2 hw2
  obtain ⟨v2, rfl, hx2, hk2⟩ := hx1.step hM hw2
  have hA2 := hA1.kept hk2 (hx1.apart hg hn0)
  have hm2 := hx2.2.2.2
  clear hw2 hk2 hx1 hA1
  have e0 := (hA2.cell 0).trans HL0.out
  have f1 := (hA2.cell 1).trans HL1.out
  have f6 := (hA2.cell 6).trans HL6.out
  go_wp2_with fail
  have hU := UsP.new w2 (fun b => ¬ WS p v2 b) 22 [s, c] (by intro x hx; simp at hx; omega) _ rfl w2.heap.size rfl (hx2.1.not_new (Nat.le_refl _))
  have hxa := hx2.alloc (.cells #[.int .u64 s, .int .u64 c] 22)
  have hAa := hA2.alloc (.cells #[.int .u64 s, .int .u64 c] 22)
  refine (wvars_any base p T v2 _ [s, c] _ 2 2 _ hxa.1 (by simp only [List.length_append, List.length_cons, List.length_nil]; have z0 := putS_le kv; omega) (by omega) (by omega) hU (by intro x hx; simp at hx; omega) (by have := hxa.2.2.2; omega)).mono ?_
  rintro e w3 hw3
  obtain ⟨v3, rfl, hx3, hk3⟩ := hxa.step hM hw3
  have hA3 := hAa.kept hk3 (hxa.apart hg hn0)
  have hm3 := hx3.2.2.2
  clear hw3 hk3 hx2 hA2 hxa hAa hU
  clear f1 f6
  go_wp2_with fail
  go_end0
  have hfin := hx3.post hM (.tuple #[])
  try simp only [List.append_assoc] at hfin
  have hEE := HE.out
  try simp only [List.append_assoc] at hEE
  rw [hEE]
  exact hfin
set_option maxRecDepth 100000 in
set_option maxHeartbeats 1000000 in
theorem write_6 (base p : Nat) (T : TypeId) (v : Value) (bs : List Int) (s o l c f q y c0 c1 c2 c3 c4 c5 c6 c7 : Int) (fin : Bool) (d r : Sl) (ds : List Int) (rs : RS) (w : World) (h : Wtr w base p T v bs) (hl : bs.length ≤ 100000000000)
    (hf : Fits w (fun b => ¬ WS p v b) ⟨6, s, o, fin, l, c, f, q, y, c0, c1, c2, c3, c4, c5, c6, c7⟩ d r ds rs) (hr : rightB ⟨6, s, o, fin, l, c, f, q, y, c0, c1, c2, c3, c4, c5, c6, c7⟩ ds rs = true) (hbase : base ≤ w.heap.size) :
    Calls Try.prog 32 #[.pointer (some ⟨p, 0, none⟩), frV ⟨6, s, o, fin, l, c, f, q, y, c0, c1, c2, c3, c4, c5, c6, c7⟩ d r] w (WPost (.tuple #[]) w base p T v (bs ++ oneS ⟨6, s, o, fin, l, c, f, q, y, c0, c1, c2, c3, c4, c5, c6, c7⟩ ds rs)) := by
  obtain ⟨hwf, hdt, hrg⟩ := hf
  have hwb := wkS_bd ⟨6, s, o, fin, l, c, f, q, y, c0, c1, c2, c3, c4, c5, c6, c7⟩ (show (0 : Int) ≤ 6 from by decide) (show (6 : Int) ≤ 30 from by decide)
  have hbd : (o ≤ 4611686018427387903 ∧ ds.length ≤ 512) := by
    simp [rightB, askN, nrB, smB, drB, FN.zero, knownB, askDs] at hr
    first | trivial | omega | exact ⟨by omega, hr.2⟩
  have hs0 := hwf.s0
  have ho0 := hwf.o0
  have hl0 := hwf.l0
  have hc0 := hwf.c0
  have hf0 := hwf.f0
  have hq0 := hwf.q0
  have hy0 := hwf.y0
  simp only at hs0 ho0 hl0 hc0 hf0 hq0 hy0
  have hcid : Byt (cidL ⟨6, s, o, fin, l, c, f, q, y, c0, c1, c2, c3, c4, c5, c6, c7⟩) := hwf.cid
  have hE : bs ++ oneS ⟨6, s, o, fin, l, c, f, q, y, c0, c1, c2, c3, c4, c5, c6, c7⟩ ds rs = bs ++ (putS (wkS ⟨6, s, o, fin, l, c, f, q, y, c0, c1, c2, c3, c4, c5, c6, c7⟩) ++ bodyS ⟨6, s, o, fin, l, c, f, q, y, c0, c1, c2, c3, c4, c5, c6, c7⟩ ds rs) := rfl
  have hbod : bodyS ⟨6, s, o, fin, l, c, f, q, y, c0, c1, c2, c3, c4, c5, c6, c7⟩ ds rs = putS o ++ textB ds := by
    simp [bodyS]
  rw [hbod] at hE
  have HE := Lib.hid hE
  clear hE hbod hr
  have hW := h
  have hB0 : Below w.heap.size w (w.alloc (.cells (frL ⟨6, s, o, fin, l, c, f, q, y, c0, c1, c2, c3, c4, c5, c6, c7⟩ d r).toArray 46)) := (Below.refl _ _).alloc (Nat.le_refl _) _
  have hA0 : At (w.alloc (.cells (frL ⟨6, s, o, fin, l, c, f, q, y, c0, c1, c2, c3, c4, c5, c6, c7⟩ d r).toArray 46)) w.heap.size 46 (frL ⟨6, s, o, fin, l, c, f, q, y, c0, c1, c2, c3, c4, c5, c6, c7⟩ d r) := At.new w _ _
  have hx0 := WSx.refl hW hB0
  have hM : w.heap.size ≤ (w.alloc (.cells (frL ⟨6, s, o, fin, l, c, f, q, y, c0, c1, c2, c3, c4, c5, c6, c7⟩ d r).toArray 46)).heap.size := hB0.size
  have hg : w.heap.size < (w.alloc (.cells (frL ⟨6, s, o, fin, l, c, f, q, y, c0, c1, c2, c3, c4, c5, c6, c7⟩ d r).toArray 46)).heap.size := hA0.lt
  have hn0 := hW.not_new (g := w.heap.size) (Nat.le_refl _)
  have hwk := wk_any ⟨6, s, o, fin, l, c, f, q, y, c0, c1, c2, c3, c4, c5, c6, c7⟩ d r
  obtain ⟨kv, hkv⟩ : ∃ x, wkS ⟨6, s, o, fin, l, c, f, q, y, c0, c1, c2, c3, c4, c5, c6, c7⟩ = x := ⟨_, rfl⟩
  rw [hkv] at hwb hwk HE
  clear hkv
  have HWK := Lib.hid (fun W => hwk W (show (0 : Int) ≤ 6 from by decide) (show (6 : Int) ≤ 30 from by decide) ho0)
  clear hwk
  have HWF := Lib.hid hwf
  have HDT := Lib.hid hdt
  have HRG := Lib.hid hrg
  have HCID := Lib.hid hcid
  clear hwf hdt hrg hcid
  obtain ⟨L, hL⟩ : ∃ L, frL ⟨6, s, o, fin, l, c, f, q, y, c0, c1, c2, c3, c4, c5, c6, c7⟩ d r = L := ⟨_, rfl⟩
  have hLl : L.length = 19 := by rw [← hL]; rfl
  have hfv : frV ⟨6, s, o, fin, l, c, f, q, y, c0, c1, c2, c3, c4, c5, c6, c7⟩ d r = .agg L.toArray := by rw [← hL]; rfl
  have hl_0 : L[0]? = some (.int .i64 6) := by rw [← hL]; rfl
  have hl_2 : L[2]? = some (.int .u64 o) := by rw [← hL]; rfl
  have hl_3 : L[3]? = some (.slice d.A d.n d.c) := by rw [← hL]; rfl
  rw [hL] at hA0 hB0 hx0 hM hg
  rw [hfv] at HWK ⊢
  clear hL hfv
  have HL0 := Lib.hid hl_0
  clear hl_0
  have HL2 := Lib.hid hl_2
  clear hl_2
  have HL3 := Lib.hid hl_3
  clear hl_3
  have HLl := Lib.hid hLl
  clear hLl
  obtain ⟨dA, dn, dc⟩ := d
  obtain ⟨M, hMM⟩ : ∃ M, (w.alloc (.cells L.toArray 46)).heap.size = M := ⟨_, rfl⟩
  rw [hMM] at hx0 hM hg
  have HMM := Lib.hid hMM
  clear hMM
  have hdc := HDT.out.cm
  have hdl := HDT.out.lc
  have hdn := HDT.out.rd.len
  simp only at hdc hdl hdn
  unfold maxLen at hdc
  have hdn' : dn ≤ 512 := by omega
  have HDN := Lib.hid hdn
  clear hdn
  go_enter Try.func32, Try.ntmps32
  go_wp2_with (first | ((with_reducible refine at_ld ?_); refine ld_fr_g _ _ (by rfl) (by rfl) hA0 HLl.out ?_) | fail)
  refine (HWK.out _).mono ?_
  rintro e w1 ⟨rfl, hb1⟩
  have hA1 := hA0.below hb1 (by rw [HMM.out]; exact hg)
  have hx1 := hx0.below hb1
  clear hA0 hx0 hb1
  have hm1 := hx1.2.2.2
  go_wp2_with fail
  refine (wvar_yes base p T v bs kv _ hx1.1 (by omega) hwb.1 (by omega) (by omega)).mono ?_
  rintro e w2 hw2
  obtain ⟨v2, rfl, hx2, hk2⟩ := hx1.step hM hw2
  have hA2 := hA1.kept hk2 (hx1.apart hg hn0)
  have hm2 := hx2.2.2.2
  clear hw2 hk2 hx1 hA1
  have e0 := (hA2.cell 0).trans HL0.out
  have f2 := (hA2.cell 2).trans HL2.out
  go_wp2_with fail
  refine (wvar_yes base p T v2 _ o _ hx2.1 (by simp only [List.length_append, List.length_cons, List.length_nil]; have z0 := putS_le kv; omega) ho0 (by omega) (by omega)).mono ?_
  rintro e w3 hw3
  obtain ⟨v3, rfl, hx3, hk3⟩ := hx2.step hM hw3
  have hA3 := hA2.kept hk3 (hx2.apart hg hn0)
  have hm3 := hx3.2.2.2
  clear hw3 hk3 hx2 hA2
  clear f2
  have f3 := (hA3.cell 3).trans HL3.out
  go_wp2_with fail
  have hrw := hx3.row hM HDT.out
  refine (wtext_any base p T v3 _ dA dn dc ds _ hx3.1 (by simp only [List.length_append, List.length_cons, List.length_nil]; have z0 := putS_le kv; have z1 := putS_le o; omega) (by omega) hrw.1 hrw.2 (by omega)).mono ?_
  rintro e w4 hw4
  obtain ⟨v4, rfl, hx4, hk4⟩ := hx3.step hM hw4
  have hA4 := hA3.kept hk4 (hx3.apart hg hn0)
  have hm4 := hx4.2.2.2
  clear hw4 hk4 hx3 hA3
  clear f3
  go_wp2_with fail
  go_end0
  have hfin := hx4.post hM (.tuple #[])
  try simp only [List.append_assoc] at hfin
  have hEE := HE.out
  try simp only [List.append_assoc] at hEE
  rw [hEE]
  exact hfin
set_option maxRecDepth 100000 in
set_option maxHeartbeats 1000000 in
theorem write_8p (base p : Nat) (T : TypeId) (v : Value) (bs : List Int) (s o l c f q y c0 c1 c2 c3 c4 c5 c6 c7 : Int) (fin : Bool) (d r : Sl) (ds : List Int) (rs : RS) (w : World) (h : Wtr w base p T v bs) (hl : bs.length ≤ 100000000000)
    (hf : Fits w (fun b => ¬ WS p v b) ⟨8, s, o, fin, l, c, f, q, y, c0, c1, c2, c3, c4, c5, c6, c7⟩ d r ds rs) (hr : rightB ⟨8, s, o, fin, l, c, f, q, y, c0, c1, c2, c3, c4, c5, c6, c7⟩ ds rs = true) (hof : 0 < o) (hbase : base ≤ w.heap.size) :
    Calls Try.prog 32 #[.pointer (some ⟨p, 0, none⟩), frV ⟨8, s, o, fin, l, c, f, q, y, c0, c1, c2, c3, c4, c5, c6, c7⟩ d r] w (WPost (.tuple #[]) w base p T v (bs ++ oneS ⟨8, s, o, fin, l, c, f, q, y, c0, c1, c2, c3, c4, c5, c6, c7⟩ ds rs)) := by
  obtain ⟨hwf, hdt, hrg⟩ := hf
  have hwb := wkS_bd ⟨8, s, o, fin, l, c, f, q, y, c0, c1, c2, c3, c4, c5, c6, c7⟩ (show (0 : Int) ≤ 8 from by decide) (show (8 : Int) ≤ 30 from by decide)
  have hbd : (s ≤ 4611686018427387903 ∧ o ≤ 4611686018427387903 ∧ ds.length ≤ 512) := by
    simp [rightB, askN, nrB, smB, drB, FN.zero, knownB, askDs] at hr
    first | trivial | omega | exact ⟨by omega, hr.2⟩
  have hs0 := hwf.s0
  have ho0 := hwf.o0
  have hl0 := hwf.l0
  have hc0 := hwf.c0
  have hf0 := hwf.f0
  have hq0 := hwf.q0
  have hy0 := hwf.y0
  simp only at hs0 ho0 hl0 hc0 hf0 hq0 hy0
  have hcid : Byt (cidL ⟨8, s, o, fin, l, c, f, q, y, c0, c1, c2, c3, c4, c5, c6, c7⟩) := hwf.cid
  have hE : bs ++ oneS ⟨8, s, o, fin, l, c, f, q, y, c0, c1, c2, c3, c4, c5, c6, c7⟩ ds rs = bs ++ (putS (wkS ⟨8, s, o, fin, l, c, f, q, y, c0, c1, c2, c3, c4, c5, c6, c7⟩) ++ bodyS ⟨8, s, o, fin, l, c, f, q, y, c0, c1, c2, c3, c4, c5, c6, c7⟩ ds rs) := rfl
  have hbod : bodyS ⟨8, s, o, fin, l, c, f, q, y, c0, c1, c2, c3, c4, c5, c6, c7⟩ ds rs = putS s ++ putS o ++ textB ds := by
    simp [bodyS, hof]
  rw [hbod] at hE
  have HE := Lib.hid hE
  clear hE hbod hr
  have hof' : decide (0 < o) = true := by simpa using hof
  have hW := h
  have hB0 : Below w.heap.size w (w.alloc (.cells (frL ⟨8, s, o, fin, l, c, f, q, y, c0, c1, c2, c3, c4, c5, c6, c7⟩ d r).toArray 46)) := (Below.refl _ _).alloc (Nat.le_refl _) _
  have hA0 : At (w.alloc (.cells (frL ⟨8, s, o, fin, l, c, f, q, y, c0, c1, c2, c3, c4, c5, c6, c7⟩ d r).toArray 46)) w.heap.size 46 (frL ⟨8, s, o, fin, l, c, f, q, y, c0, c1, c2, c3, c4, c5, c6, c7⟩ d r) := At.new w _ _
  have hx0 := WSx.refl hW hB0
  have hM : w.heap.size ≤ (w.alloc (.cells (frL ⟨8, s, o, fin, l, c, f, q, y, c0, c1, c2, c3, c4, c5, c6, c7⟩ d r).toArray 46)).heap.size := hB0.size
  have hg : w.heap.size < (w.alloc (.cells (frL ⟨8, s, o, fin, l, c, f, q, y, c0, c1, c2, c3, c4, c5, c6, c7⟩ d r).toArray 46)).heap.size := hA0.lt
  have hn0 := hW.not_new (g := w.heap.size) (Nat.le_refl _)
  have hwk := wk_any ⟨8, s, o, fin, l, c, f, q, y, c0, c1, c2, c3, c4, c5, c6, c7⟩ d r
  obtain ⟨kv, hkv⟩ : ∃ x, wkS ⟨8, s, o, fin, l, c, f, q, y, c0, c1, c2, c3, c4, c5, c6, c7⟩ = x := ⟨_, rfl⟩
  rw [hkv] at hwb hwk HE
  clear hkv
  have HWK := Lib.hid (fun W => hwk W (show (0 : Int) ≤ 8 from by decide) (show (8 : Int) ≤ 30 from by decide) ho0)
  clear hwk
  have HWF := Lib.hid hwf
  have HDT := Lib.hid hdt
  have HRG := Lib.hid hrg
  have HCID := Lib.hid hcid
  clear hwf hdt hrg hcid
  obtain ⟨L, hL⟩ : ∃ L, frL ⟨8, s, o, fin, l, c, f, q, y, c0, c1, c2, c3, c4, c5, c6, c7⟩ d r = L := ⟨_, rfl⟩
  have hLl : L.length = 19 := by rw [← hL]; rfl
  have hfv : frV ⟨8, s, o, fin, l, c, f, q, y, c0, c1, c2, c3, c4, c5, c6, c7⟩ d r = .agg L.toArray := by rw [← hL]; rfl
  have hl_0 : L[0]? = some (.int .i64 8) := by rw [← hL]; rfl
  have hl_1 : L[1]? = some (.int .u64 s) := by rw [← hL]; rfl
  have hl_2 : L[2]? = some (.int .u64 o) := by rw [← hL]; rfl
  have hl_3 : L[3]? = some (.slice d.A d.n d.c) := by rw [← hL]; rfl
  rw [hL] at hA0 hB0 hx0 hM hg
  rw [hfv] at HWK ⊢
  clear hL hfv
  have HL0 := Lib.hid hl_0
  clear hl_0
  have HL1 := Lib.hid hl_1
  clear hl_1
  have HL2 := Lib.hid hl_2
  clear hl_2
  have HL3 := Lib.hid hl_3
  clear hl_3
  have HLl := Lib.hid hLl
  clear hLl
  obtain ⟨dA, dn, dc⟩ := d
  obtain ⟨M, hMM⟩ : ∃ M, (w.alloc (.cells L.toArray 46)).heap.size = M := ⟨_, rfl⟩
  rw [hMM] at hx0 hM hg
  have HMM := Lib.hid hMM
  clear hMM
  have hdc := HDT.out.cm
  have hdl := HDT.out.lc
  have hdn := HDT.out.rd.len
  simp only at hdc hdl hdn
  unfold maxLen at hdc
  have hdn' : dn ≤ 512 := by omega
  have HDN := Lib.hid hdn
  clear hdn
  go_enter Try.func32, Try.ntmps32
  go_wp2_with (first | ((with_reducible refine at_ld ?_); refine ld_fr_g _ _ (by rfl) (by rfl) hA0 HLl.out ?_) | fail)
  refine (HWK.out _).mono ?_
  rintro e w1 ⟨rfl, hb1⟩
  have hA1 := hA0.below hb1 (by rw [HMM.out]; exact hg)
  have hx1 := hx0.below hb1
  clear hA0 hx0 hb1
  have hm1 := hx1.2.2.2
  go_wp2_with fail
  refine (wvar_yes base p T v bs kv _ hx1.1 (by omega) hwb.1 (by omega) (by omega)).mono ?_
  rintro e w2 hw2
  obtain ⟨v2, rfl, hx2, hk2⟩ := hx1.step hM hw2
  have hA2 := hA1.kept hk2 (hx1.apart hg hn0)
  have hm2 := hx2.2.2.2
  clear hw2 hk2 hx1 hA1
  have e0 := (hA2.cell 0).trans HL0.out
  have f1 := (hA2.cell 1).trans HL1.out
  have f2 := (hA2.cell 2).trans HL2.out
  go_wp2_with fail
  refine (wvar_yes base p T v2 _ s _ hx2.1 (by simp only [List.length_append, List.length_cons, List.length_nil]; have z0 := putS_le kv; omega) hs0 (by omega) (by omega)).mono ?_
  rintro e w3 hw3
  obtain ⟨v3, rfl, hx3, hk3⟩ := hx2.step hM hw3
  have hA3 := hA2.kept hk3 (hx2.apart hg hn0)
  have hm3 := hx3.2.2.2
  clear hw3 hk3 hx2 hA2
  clear f1 f2
  have f2 := (hA3.cell 2).trans HL2.out
  go_wp2_with fail
  refine (wvar_yes base p T v3 _ o _ hx3.1 (by simp only [List.length_append, List.length_cons, List.length_nil]; have z0 := putS_le kv; have z1 := putS_le s; omega) ho0 (by omega) (by omega)).mono ?_
  rintro e w4 hw4
  obtain ⟨v4, rfl, hx4, hk4⟩ := hx3.step hM hw4
  have hA4 := hA3.kept hk4 (hx3.apart hg hn0)
  have hm4 := hx4.2.2.2
  clear hw4 hk4 hx3 hA3
  clear f2
  have f2 := (hA4.cell 2).trans HL2.out
  have f3 := (hA4.cell 3).trans HL3.out
  go_wp2_with fail
  have hrw := hx4.row hM HDT.out
  refine (wtext_any base p T v4 _ dA dn dc ds _ hx4.1 (by simp only [List.length_append, List.length_cons, List.length_nil]; have z0 := putS_le kv; have z1 := putS_le s; have z2 := putS_le o; omega) (by omega) hrw.1 hrw.2 (by omega)).mono ?_
  rintro e w5 hw5
  obtain ⟨v5, rfl, hx5, hk5⟩ := hx4.step hM hw5
  have hA5 := hA4.kept hk5 (hx4.apart hg hn0)
  have hm5 := hx5.2.2.2
  clear hw5 hk5 hx4 hA4
  clear f2 f3
  go_wp2_with fail
  go_end0
  have hfin := hx5.post hM (.tuple #[])
  try simp only [List.append_assoc] at hfin
  have hEE := HE.out
  try simp only [List.append_assoc] at hEE
  rw [hEE]
  exact hfin
set_option maxRecDepth 100000 in
set_option maxHeartbeats 1000000 in
theorem write_8z (base p : Nat) (T : TypeId) (v : Value) (bs : List Int) (s o l c f q y c0 c1 c2 c3 c4 c5 c6 c7 : Int) (fin : Bool) (d r : Sl) (ds : List Int) (rs : RS) (w : World) (h : Wtr w base p T v bs) (hl : bs.length ≤ 100000000000)
    (hf : Fits w (fun b => ¬ WS p v b) ⟨8, s, o, fin, l, c, f, q, y, c0, c1, c2, c3, c4, c5, c6, c7⟩ d r ds rs) (hr : rightB ⟨8, s, o, fin, l, c, f, q, y, c0, c1, c2, c3, c4, c5, c6, c7⟩ ds rs = true) (hof : o ≤ 0) (hbase : base ≤ w.heap.size) :
    Calls Try.prog 32 #[.pointer (some ⟨p, 0, none⟩), frV ⟨8, s, o, fin, l, c, f, q, y, c0, c1, c2, c3, c4, c5, c6, c7⟩ d r] w (WPost (.tuple #[]) w base p T v (bs ++ oneS ⟨8, s, o, fin, l, c, f, q, y, c0, c1, c2, c3, c4, c5, c6, c7⟩ ds rs)) := by
  obtain ⟨hwf, hdt, hrg⟩ := hf
  have hwb := wkS_bd ⟨8, s, o, fin, l, c, f, q, y, c0, c1, c2, c3, c4, c5, c6, c7⟩ (show (0 : Int) ≤ 8 from by decide) (show (8 : Int) ≤ 30 from by decide)
  have hbd : (s ≤ 4611686018427387903 ∧ o ≤ 4611686018427387903 ∧ ds.length ≤ 512) := by
    simp [rightB, askN, nrB, smB, drB, FN.zero, knownB, askDs] at hr
    first | trivial | omega | exact ⟨by omega, hr.2⟩
  have hs0 := hwf.s0
  have ho0 := hwf.o0
  have hl0 := hwf.l0
  have hc0 := hwf.c0
  have hf0 := hwf.f0
  have hq0 := hwf.q0
  have hy0 := hwf.y0
  simp only at hs0 ho0 hl0 hc0 hf0 hq0 hy0
  have hcid : Byt (cidL ⟨8, s, o, fin, l, c, f, q, y, c0, c1, c2, c3, c4, c5, c6, c7⟩) := hwf.cid
  have hE : bs ++ oneS ⟨8, s, o, fin, l, c, f, q, y, c0, c1, c2, c3, c4, c5, c6, c7⟩ ds rs = bs ++ (putS (wkS ⟨8, s, o, fin, l, c, f, q, y, c0, c1, c2, c3, c4, c5, c6, c7⟩) ++ bodyS ⟨8, s, o, fin, l, c, f, q, y, c0, c1, c2, c3, c4, c5, c6, c7⟩ ds rs) := rfl
  have hbod : bodyS ⟨8, s, o, fin, l, c, f, q, y, c0, c1, c2, c3, c4, c5, c6, c7⟩ ds rs = putS s ++ textB ds := by
    simp [bodyS, show ¬ 0 < o by omega]
  rw [hbod] at hE
  have HE := Lib.hid hE
  clear hE hbod hr
  have hof' : decide (0 < o) = false := by simp; omega
  have hW := h
  have hB0 : Below w.heap.size w (w.alloc (.cells (frL ⟨8, s, o, fin, l, c, f, q, y, c0, c1, c2, c3, c4, c5, c6, c7⟩ d r).toArray 46)) := (Below.refl _ _).alloc (Nat.le_refl _) _
  have hA0 : At (w.alloc (.cells (frL ⟨8, s, o, fin, l, c, f, q, y, c0, c1, c2, c3, c4, c5, c6, c7⟩ d r).toArray 46)) w.heap.size 46 (frL ⟨8, s, o, fin, l, c, f, q, y, c0, c1, c2, c3, c4, c5, c6, c7⟩ d r) := At.new w _ _
  have hx0 := WSx.refl hW hB0
  have hM : w.heap.size ≤ (w.alloc (.cells (frL ⟨8, s, o, fin, l, c, f, q, y, c0, c1, c2, c3, c4, c5, c6, c7⟩ d r).toArray 46)).heap.size := hB0.size
  have hg : w.heap.size < (w.alloc (.cells (frL ⟨8, s, o, fin, l, c, f, q, y, c0, c1, c2, c3, c4, c5, c6, c7⟩ d r).toArray 46)).heap.size := hA0.lt
  have hn0 := hW.not_new (g := w.heap.size) (Nat.le_refl _)
  have hwk := wk_any ⟨8, s, o, fin, l, c, f, q, y, c0, c1, c2, c3, c4, c5, c6, c7⟩ d r
  obtain ⟨kv, hkv⟩ : ∃ x, wkS ⟨8, s, o, fin, l, c, f, q, y, c0, c1, c2, c3, c4, c5, c6, c7⟩ = x := ⟨_, rfl⟩
  rw [hkv] at hwb hwk HE
  clear hkv
  have HWK := Lib.hid (fun W => hwk W (show (0 : Int) ≤ 8 from by decide) (show (8 : Int) ≤ 30 from by decide) ho0)
  clear hwk
  have HWF := Lib.hid hwf
  have HDT := Lib.hid hdt
  have HRG := Lib.hid hrg
  have HCID := Lib.hid hcid
  clear hwf hdt hrg hcid
  obtain ⟨L, hL⟩ : ∃ L, frL ⟨8, s, o, fin, l, c, f, q, y, c0, c1, c2, c3, c4, c5, c6, c7⟩ d r = L := ⟨_, rfl⟩
  have hLl : L.length = 19 := by rw [← hL]; rfl
  have hfv : frV ⟨8, s, o, fin, l, c, f, q, y, c0, c1, c2, c3, c4, c5, c6, c7⟩ d r = .agg L.toArray := by rw [← hL]; rfl
  have hl_0 : L[0]? = some (.int .i64 8) := by rw [← hL]; rfl
  have hl_1 : L[1]? = some (.int .u64 s) := by rw [← hL]; rfl
  have hl_2 : L[2]? = some (.int .u64 o) := by rw [← hL]; rfl
  have hl_3 : L[3]? = some (.slice d.A d.n d.c) := by rw [← hL]; rfl
  rw [hL] at hA0 hB0 hx0 hM hg
  rw [hfv] at HWK ⊢
  clear hL hfv
  have HL0 := Lib.hid hl_0
  clear hl_0
  have HL1 := Lib.hid hl_1
  clear hl_1
  have HL2 := Lib.hid hl_2
  clear hl_2
  have HL3 := Lib.hid hl_3
  clear hl_3
  have HLl := Lib.hid hLl
  clear hLl
  obtain ⟨dA, dn, dc⟩ := d
  obtain ⟨M, hMM⟩ : ∃ M, (w.alloc (.cells L.toArray 46)).heap.size = M := ⟨_, rfl⟩
  rw [hMM] at hx0 hM hg
  have HMM := Lib.hid hMM
  clear hMM
  have hdc := HDT.out.cm
  have hdl := HDT.out.lc
  have hdn := HDT.out.rd.len
  simp only at hdc hdl hdn
  unfold maxLen at hdc
  have hdn' : dn ≤ 512 := by omega
  have HDN := Lib.hid hdn
  clear hdn
  go_enter Try.func32, Try.ntmps32
  go_wp2_with (first | ((with_reducible refine at_ld ?_); refine ld_fr_g _ _ (by rfl) (by rfl) hA0 HLl.out ?_) | fail)
  refine (HWK.out _).mono ?_
  rintro e w1 ⟨rfl, hb1⟩
  have hA1 := hA0.below hb1 (by rw [HMM.out]; exact hg)
  have hx1 := hx0.below hb1
  clear hA0 hx0 hb1
  have hm1 := hx1.2.2.2
  go_wp2_with fail
  refine (wvar_yes base p T v bs kv _ hx1.1 (by omega) hwb.1 (by omega) (by omega)).mono ?_
  rintro e w2 hw2
  obtain ⟨v2, rfl, hx2, hk2⟩ := hx1.step hM hw2
  have hA2 := hA1.kept hk2 (hx1.apart hg hn0)
  have hm2 := hx2.2.2.2
  clear hw2 hk2 hx1 hA1
  have e0 := (hA2.cell 0).trans HL0.out
  have f1 := (hA2.cell 1).trans HL1.out
  have f2 := (hA2.cell 2).trans HL2.out
  go_wp2_with fail
  refine (wvar_yes base p T v2 _ s _ hx2.1 (by simp only [List.length_append, List.length_cons, List.length_nil]; have z0 := putS_le kv; omega) hs0 (by omega) (by omega)).mono ?_
  rintro e w3 hw3
  obtain ⟨v3, rfl, hx3, hk3⟩ := hx2.step hM hw3
  have hA3 := hA2.kept hk3 (hx2.apart hg hn0)
  have hm3 := hx3.2.2.2
  clear hw3 hk3 hx2 hA2
  clear f1 f2
  have f2 := (hA3.cell 2).trans HL2.out
  have f3 := (hA3.cell 3).trans HL3.out
  go_wp2_with fail
  have hrw := hx3.row hM HDT.out
  refine (wtext_any base p T v3 _ dA dn dc ds _ hx3.1 (by simp only [List.length_append, List.length_cons, List.length_nil]; have z0 := putS_le kv; have z1 := putS_le s; omega) (by omega) hrw.1 hrw.2 (by omega)).mono ?_
  rintro e w4 hw4
  obtain ⟨v4, rfl, hx4, hk4⟩ := hx3.step hM hw4
  have hA4 := hA3.kept hk4 (hx3.apart hg hn0)
  have hm4 := hx4.2.2.2
  clear hw4 hk4 hx3 hA3
  clear f2 f3
  go_wp2_with fail
  go_end0
  have hfin := hx4.post hM (.tuple #[])
  try simp only [List.append_assoc] at hfin
  have hEE := HE.out
  try simp only [List.append_assoc] at hEE
  rw [hEE]
  exact hfin
set_option maxRecDepth 100000 in
set_option maxHeartbeats 1000000 in
theorem write_16 (base p : Nat) (T : TypeId) (v : Value) (bs : List Int) (s o l c f q y c0 c1 c2 c3 c4 c5 c6 c7 : Int) (fin : Bool) (d r : Sl) (ds : List Int) (rs : RS) (w : World) (h : Wtr w base p T v bs) (hl : bs.length ≤ 100000000000)
    (hf : Fits w (fun b => ¬ WS p v b) ⟨16, s, o, fin, l, c, f, q, y, c0, c1, c2, c3, c4, c5, c6, c7⟩ d r ds rs) (hr : rightB ⟨16, s, o, fin, l, c, f, q, y, c0, c1, c2, c3, c4, c5, c6, c7⟩ ds rs = true) (hbase : base ≤ w.heap.size) :
    Calls Try.prog 32 #[.pointer (some ⟨p, 0, none⟩), frV ⟨16, s, o, fin, l, c, f, q, y, c0, c1, c2, c3, c4, c5, c6, c7⟩ d r] w (WPost (.tuple #[]) w base p T v (bs ++ oneS ⟨16, s, o, fin, l, c, f, q, y, c0, c1, c2, c3, c4, c5, c6, c7⟩ ds rs)) := by
  obtain ⟨hwf, hdt, hrg⟩ := hf
  have hwb := wkS_bd ⟨16, s, o, fin, l, c, f, q, y, c0, c1, c2, c3, c4, c5, c6, c7⟩ (show (0 : Int) ≤ 16 from by decide) (show (16 : Int) ≤ 30 from by decide)
  have hbd : (l ≤ 4611686018427387903) := by
    simp [rightB, askN, nrB, smB, drB, FN.zero, knownB, askDs] at hr
    first | trivial | omega | exact ⟨by omega, hr.2⟩
  have hs0 := hwf.s0
  have ho0 := hwf.o0
  have hl0 := hwf.l0
  have hc0 := hwf.c0
  have hf0 := hwf.f0
  have hq0 := hwf.q0
  have hy0 := hwf.y0
  simp only at hs0 ho0 hl0 hc0 hf0 hq0 hy0
  have hcid : Byt (cidL ⟨16, s, o, fin, l, c, f, q, y, c0, c1, c2, c3, c4, c5, c6, c7⟩) := hwf.cid
  have hE : bs ++ oneS ⟨16, s, o, fin, l, c, f, q, y, c0, c1, c2, c3, c4, c5, c6, c7⟩ ds rs = bs ++ (putS (wkS ⟨16, s, o, fin, l, c, f, q, y, c0, c1, c2, c3, c4, c5, c6, c7⟩) ++ bodyS ⟨16, s, o, fin, l, c, f, q, y, c0, c1, c2, c3, c4, c5, c6, c7⟩ ds rs) := rfl
  have hbod : bodyS ⟨16, s, o, fin, l, c, f, q, y, c0, c1, c2, c3, c4, c5, c6, c7⟩ ds rs = putS l := by
    simp [bodyS]
  rw [hbod] at hE
  have HE := Lib.hid hE
  clear hE hbod hr
  have hW := h
  have hB0 : Below w.heap.size w (w.alloc (.cells (frL ⟨16, s, o, fin, l, c, f, q, y, c0, c1, c2, c3, c4, c5, c6, c7⟩ d r).toArray 46)) := (Below.refl _ _).alloc (Nat.le_refl _) _
  have hA0 : At (w.alloc (.cells (frL ⟨16, s, o, fin, l, c, f, q, y, c0, c1, c2, c3, c4, c5, c6, c7⟩ d r).toArray 46)) w.heap.size 46 (frL ⟨16, s, o, fin, l, c, f, q, y, c0, c1, c2, c3, c4, c5, c6, c7⟩ d r) := At.new w _ _
  have hx0 := WSx.refl hW hB0
  have hM : w.heap.size ≤ (w.alloc (.cells (frL ⟨16, s, o, fin, l, c, f, q, y, c0, c1, c2, c3, c4, c5, c6, c7⟩ d r).toArray 46)).heap.size := hB0.size
  have hg : w.heap.size < (w.alloc (.cells (frL ⟨16, s, o, fin, l, c, f, q, y, c0, c1, c2, c3, c4, c5, c6, c7⟩ d r).toArray 46)).heap.size := hA0.lt
  have hn0 := hW.not_new (g := w.heap.size) (Nat.le_refl _)
  have hwk := wk_any ⟨16, s, o, fin, l, c, f, q, y, c0, c1, c2, c3, c4, c5, c6, c7⟩ d r
  obtain ⟨kv, hkv⟩ : ∃ x, wkS ⟨16, s, o, fin, l, c, f, q, y, c0, c1, c2, c3, c4, c5, c6, c7⟩ = x := ⟨_, rfl⟩
  rw [hkv] at hwb hwk HE
  clear hkv
  have HWK := Lib.hid (fun W => hwk W (show (0 : Int) ≤ 16 from by decide) (show (16 : Int) ≤ 30 from by decide) ho0)
  clear hwk
  have HWF := Lib.hid hwf
  have HDT := Lib.hid hdt
  have HRG := Lib.hid hrg
  have HCID := Lib.hid hcid
  clear hwf hdt hrg hcid
  obtain ⟨L, hL⟩ : ∃ L, frL ⟨16, s, o, fin, l, c, f, q, y, c0, c1, c2, c3, c4, c5, c6, c7⟩ d r = L := ⟨_, rfl⟩
  have hLl : L.length = 19 := by rw [← hL]; rfl
  have hfv : frV ⟨16, s, o, fin, l, c, f, q, y, c0, c1, c2, c3, c4, c5, c6, c7⟩ d r = .agg L.toArray := by rw [← hL]; rfl
  have hl_0 : L[0]? = some (.int .i64 16) := by rw [← hL]; rfl
  have hl_5 : L[5]? = some (.int .u64 l) := by rw [← hL]; rfl
  rw [hL] at hA0 hB0 hx0 hM hg
  rw [hfv] at HWK ⊢
  clear hL hfv
  have HL0 := Lib.hid hl_0
  clear hl_0
  have HL5 := Lib.hid hl_5
  clear hl_5
  have HLl := Lib.hid hLl
  clear hLl
  obtain ⟨dA, dn, dc⟩ := d
  obtain ⟨M, hMM⟩ : ∃ M, (w.alloc (.cells L.toArray 46)).heap.size = M := ⟨_, rfl⟩
  rw [hMM] at hx0 hM hg
  have HMM := Lib.hid hMM
  clear hMM
  go_enter Try.func32, Try.ntmps32
  go_wp2_with (first | ((with_reducible refine at_ld ?_); refine ld_fr_g _ _ (by rfl) (by rfl) hA0 HLl.out ?_) | fail)
  refine (HWK.out _).mono ?_
  rintro e w1 ⟨rfl, hb1⟩
  have hA1 := hA0.below hb1 (by rw [HMM.out]; exact hg)
  have hx1 := hx0.below hb1
  clear hA0 hx0 hb1
  have hm1 := hx1.2.2.2
  go_wp2_with fail
  refine (wvar_yes base p T v bs kv _ hx1.1 (by omega) hwb.1 (by omega) (by omega)).mono ?_
  rintro e w2 hw2
  obtain ⟨v2, rfl, hx2, hk2⟩ := hx1.step hM hw2
  have hA2 := hA1.kept hk2 (hx1.apart hg hn0)
  have hm2 := hx2.2.2.2
  clear hw2 hk2 hx1 hA1
  have e0 := (hA2.cell 0).trans HL0.out
  have f5 := (hA2.cell 5).trans HL5.out
  go_wp2_with fail
  refine (wvar_yes base p T v2 _ l _ hx2.1 (by simp only [List.length_append, List.length_cons, List.length_nil]; have z0 := putS_le kv; omega) hl0 (by omega) (by omega)).mono ?_
  rintro e w3 hw3
  obtain ⟨v3, rfl, hx3, hk3⟩ := hx2.step hM hw3
  have hA3 := hA2.kept hk3 (hx2.apart hg hn0)
  have hm3 := hx3.2.2.2
  clear hw3 hk3 hx2 hA2
  clear f5
  go_wp2_with fail
  go_end0
  have hfin := hx3.post hM (.tuple #[])
  try simp only [List.append_assoc] at hfin
  have hEE := HE.out
  try simp only [List.append_assoc] at hEE
  rw [hEE]
  exact hfin
set_option maxRecDepth 100000 in
set_option maxHeartbeats 1000000 in
theorem write_18 (base p : Nat) (T : TypeId) (v : Value) (bs : List Int) (s o l c f q y c0 c1 c2 c3 c4 c5 c6 c7 : Int) (fin : Bool) (d r : Sl) (ds : List Int) (rs : RS) (w : World) (h : Wtr w base p T v bs) (hl : bs.length ≤ 100000000000)
    (hf : Fits w (fun b => ¬ WS p v b) ⟨18, s, o, fin, l, c, f, q, y, c0, c1, c2, c3, c4, c5, c6, c7⟩ d r ds rs) (hr : rightB ⟨18, s, o, fin, l, c, f, q, y, c0, c1, c2, c3, c4, c5, c6, c7⟩ ds rs = true) (hbase : base ≤ w.heap.size) :
    Calls Try.prog 32 #[.pointer (some ⟨p, 0, none⟩), frV ⟨18, s, o, fin, l, c, f, q, y, c0, c1, c2, c3, c4, c5, c6, c7⟩ d r] w (WPost (.tuple #[]) w base p T v (bs ++ oneS ⟨18, s, o, fin, l, c, f, q, y, c0, c1, c2, c3, c4, c5, c6, c7⟩ ds rs)) := by
  obtain ⟨hwf, hdt, hrg⟩ := hf
  have hwb := wkS_bd ⟨18, s, o, fin, l, c, f, q, y, c0, c1, c2, c3, c4, c5, c6, c7⟩ (show (0 : Int) ≤ 18 from by decide) (show (18 : Int) ≤ 30 from by decide)
  have hbd : (l ≤ 4611686018427387903) := by
    simp [rightB, askN, nrB, smB, drB, FN.zero, knownB, askDs] at hr
    first | trivial | omega | exact ⟨by omega, hr.2⟩
  have hs0 := hwf.s0
  have ho0 := hwf.o0
  have hl0 := hwf.l0
  have hc0 := hwf.c0
  have hf0 := hwf.f0
  have hq0 := hwf.q0
  have hy0 := hwf.y0
  simp only at hs0 ho0 hl0 hc0 hf0 hq0 hy0
  have hcid : Byt (cidL ⟨18, s, o, fin, l, c, f, q, y, c0, c1, c2, c3, c4, c5, c6, c7⟩) := hwf.cid
  have hE : bs ++ oneS ⟨18, s, o, fin, l, c, f, q, y, c0, c1, c2, c3, c4, c5, c6, c7⟩ ds rs = bs ++ (putS (wkS ⟨18, s, o, fin, l, c, f, q, y, c0, c1, c2, c3, c4, c5, c6, c7⟩) ++ bodyS ⟨18, s, o, fin, l, c, f, q, y, c0, c1, c2, c3, c4, c5, c6, c7⟩ ds rs) := rfl
  have hbod : bodyS ⟨18, s, o, fin, l, c, f, q, y, c0, c1, c2, c3, c4, c5, c6, c7⟩ ds rs = putS l := by
    simp [bodyS]
  rw [hbod] at hE
  have HE := Lib.hid hE
  clear hE hbod hr
  have hW := h
  have hB0 : Below w.heap.size w (w.alloc (.cells (frL ⟨18, s, o, fin, l, c, f, q, y, c0, c1, c2, c3, c4, c5, c6, c7⟩ d r).toArray 46)) := (Below.refl _ _).alloc (Nat.le_refl _) _
  have hA0 : At (w.alloc (.cells (frL ⟨18, s, o, fin, l, c, f, q, y, c0, c1, c2, c3, c4, c5, c6, c7⟩ d r).toArray 46)) w.heap.size 46 (frL ⟨18, s, o, fin, l, c, f, q, y, c0, c1, c2, c3, c4, c5, c6, c7⟩ d r) := At.new w _ _
  have hx0 := WSx.refl hW hB0
  have hM : w.heap.size ≤ (w.alloc (.cells (frL ⟨18, s, o, fin, l, c, f, q, y, c0, c1, c2, c3, c4, c5, c6, c7⟩ d r).toArray 46)).heap.size := hB0.size
  have hg : w.heap.size < (w.alloc (.cells (frL ⟨18, s, o, fin, l, c, f, q, y, c0, c1, c2, c3, c4, c5, c6, c7⟩ d r).toArray 46)).heap.size := hA0.lt
  have hn0 := hW.not_new (g := w.heap.size) (Nat.le_refl _)
  have hwk := wk_any ⟨18, s, o, fin, l, c, f, q, y, c0, c1, c2, c3, c4, c5, c6, c7⟩ d r
  obtain ⟨kv, hkv⟩ : ∃ x, wkS ⟨18, s, o, fin, l, c, f, q, y, c0, c1, c2, c3, c4, c5, c6, c7⟩ = x := ⟨_, rfl⟩
  rw [hkv] at hwb hwk HE
  clear hkv
  have HWK := Lib.hid (fun W => hwk W (show (0 : Int) ≤ 18 from by decide) (show (18 : Int) ≤ 30 from by decide) ho0)
  clear hwk
  have HWF := Lib.hid hwf
  have HDT := Lib.hid hdt
  have HRG := Lib.hid hrg
  have HCID := Lib.hid hcid
  clear hwf hdt hrg hcid
  obtain ⟨L, hL⟩ : ∃ L, frL ⟨18, s, o, fin, l, c, f, q, y, c0, c1, c2, c3, c4, c5, c6, c7⟩ d r = L := ⟨_, rfl⟩
  have hLl : L.length = 19 := by rw [← hL]; rfl
  have hfv : frV ⟨18, s, o, fin, l, c, f, q, y, c0, c1, c2, c3, c4, c5, c6, c7⟩ d r = .agg L.toArray := by rw [← hL]; rfl
  have hl_0 : L[0]? = some (.int .i64 18) := by rw [← hL]; rfl
  have hl_5 : L[5]? = some (.int .u64 l) := by rw [← hL]; rfl
  rw [hL] at hA0 hB0 hx0 hM hg
  rw [hfv] at HWK ⊢
  clear hL hfv
  have HL0 := Lib.hid hl_0
  clear hl_0
  have HL5 := Lib.hid hl_5
  clear hl_5
  have HLl := Lib.hid hLl
  clear hLl
  obtain ⟨dA, dn, dc⟩ := d
  obtain ⟨M, hMM⟩ : ∃ M, (w.alloc (.cells L.toArray 46)).heap.size = M := ⟨_, rfl⟩
  rw [hMM] at hx0 hM hg
  have HMM := Lib.hid hMM
  clear hMM
  go_enter Try.func32, Try.ntmps32
  go_wp2_with (first | ((with_reducible refine at_ld ?_); refine ld_fr_g _ _ (by rfl) (by rfl) hA0 HLl.out ?_) | fail)
  refine (HWK.out _).mono ?_
  rintro e w1 ⟨rfl, hb1⟩
  have hA1 := hA0.below hb1 (by rw [HMM.out]; exact hg)
  have hx1 := hx0.below hb1
  clear hA0 hx0 hb1
  have hm1 := hx1.2.2.2
  go_wp2_with fail
  refine (wvar_yes base p T v bs kv _ hx1.1 (by omega) hwb.1 (by omega) (by omega)).mono ?_
  rintro e w2 hw2
  obtain ⟨v2, rfl, hx2, hk2⟩ := hx1.step hM hw2
  have hA2 := hA1.kept hk2 (hx1.apart hg hn0)
  have hm2 := hx2.2.2.2
  clear hw2 hk2 hx1 hA1
  have e0 := (hA2.cell 0).trans HL0.out
  have f5 := (hA2.cell 5).trans HL5.out
  go_wp2_with fail
  refine (wvar_yes base p T v2 _ l _ hx2.1 (by simp only [List.length_append, List.length_cons, List.length_nil]; have z0 := putS_le kv; omega) hl0 (by omega) (by omega)).mono ?_
  rintro e w3 hw3
  obtain ⟨v3, rfl, hx3, hk3⟩ := hx2.step hM hw3
  have hA3 := hA2.kept hk3 (hx2.apart hg hn0)
  have hm3 := hx3.2.2.2
  clear hw3 hk3 hx2 hA2
  clear f5
  go_wp2_with fail
  go_end0
  have hfin := hx3.post hM (.tuple #[])
  try simp only [List.append_assoc] at hfin
  have hEE := HE.out
  try simp only [List.append_assoc] at hEE
  rw [hEE]
  exact hfin
set_option maxRecDepth 100000 in
set_option maxHeartbeats 1000000 in
theorem write_20 (base p : Nat) (T : TypeId) (v : Value) (bs : List Int) (s o l c f q y c0 c1 c2 c3 c4 c5 c6 c7 : Int) (fin : Bool) (d r : Sl) (ds : List Int) (rs : RS) (w : World) (h : Wtr w base p T v bs) (hl : bs.length ≤ 100000000000)
    (hf : Fits w (fun b => ¬ WS p v b) ⟨20, s, o, fin, l, c, f, q, y, c0, c1, c2, c3, c4, c5, c6, c7⟩ d r ds rs) (hr : rightB ⟨20, s, o, fin, l, c, f, q, y, c0, c1, c2, c3, c4, c5, c6, c7⟩ ds rs = true) (hbase : base ≤ w.heap.size) :
    Calls Try.prog 32 #[.pointer (some ⟨p, 0, none⟩), frV ⟨20, s, o, fin, l, c, f, q, y, c0, c1, c2, c3, c4, c5, c6, c7⟩ d r] w (WPost (.tuple #[]) w base p T v (bs ++ oneS ⟨20, s, o, fin, l, c, f, q, y, c0, c1, c2, c3, c4, c5, c6, c7⟩ ds rs)) := by
  obtain ⟨hwf, hdt, hrg⟩ := hf
  have hwb := wkS_bd ⟨20, s, o, fin, l, c, f, q, y, c0, c1, c2, c3, c4, c5, c6, c7⟩ (show (0 : Int) ≤ 20 from by decide) (show (20 : Int) ≤ 30 from by decide)
  have hbd : (l ≤ 4611686018427387903) := by
    simp [rightB, askN, nrB, smB, drB, FN.zero, knownB, askDs] at hr
    first | trivial | omega | exact ⟨by omega, hr.2⟩
  have hs0 := hwf.s0
  have ho0 := hwf.o0
  have hl0 := hwf.l0
  have hc0 := hwf.c0
  have hf0 := hwf.f0
  have hq0 := hwf.q0
  have hy0 := hwf.y0
  simp only at hs0 ho0 hl0 hc0 hf0 hq0 hy0
  have hcid : Byt (cidL ⟨20, s, o, fin, l, c, f, q, y, c0, c1, c2, c3, c4, c5, c6, c7⟩) := hwf.cid
  have hE : bs ++ oneS ⟨20, s, o, fin, l, c, f, q, y, c0, c1, c2, c3, c4, c5, c6, c7⟩ ds rs = bs ++ (putS (wkS ⟨20, s, o, fin, l, c, f, q, y, c0, c1, c2, c3, c4, c5, c6, c7⟩) ++ bodyS ⟨20, s, o, fin, l, c, f, q, y, c0, c1, c2, c3, c4, c5, c6, c7⟩ ds rs) := rfl
  have hbod : bodyS ⟨20, s, o, fin, l, c, f, q, y, c0, c1, c2, c3, c4, c5, c6, c7⟩ ds rs = putS l := by
    simp [bodyS]
  rw [hbod] at hE
  have HE := Lib.hid hE
  clear hE hbod hr
  have hW := h
  have hB0 : Below w.heap.size w (w.alloc (.cells (frL ⟨20, s, o, fin, l, c, f, q, y, c0, c1, c2, c3, c4, c5, c6, c7⟩ d r).toArray 46)) := (Below.refl _ _).alloc (Nat.le_refl _) _
  have hA0 : At (w.alloc (.cells (frL ⟨20, s, o, fin, l, c, f, q, y, c0, c1, c2, c3, c4, c5, c6, c7⟩ d r).toArray 46)) w.heap.size 46 (frL ⟨20, s, o, fin, l, c, f, q, y, c0, c1, c2, c3, c4, c5, c6, c7⟩ d r) := At.new w _ _
  have hx0 := WSx.refl hW hB0
  have hM : w.heap.size ≤ (w.alloc (.cells (frL ⟨20, s, o, fin, l, c, f, q, y, c0, c1, c2, c3, c4, c5, c6, c7⟩ d r).toArray 46)).heap.size := hB0.size
  have hg : w.heap.size < (w.alloc (.cells (frL ⟨20, s, o, fin, l, c, f, q, y, c0, c1, c2, c3, c4, c5, c6, c7⟩ d r).toArray 46)).heap.size := hA0.lt
  have hn0 := hW.not_new (g := w.heap.size) (Nat.le_refl _)
  have hwk := wk_any ⟨20, s, o, fin, l, c, f, q, y, c0, c1, c2, c3, c4, c5, c6, c7⟩ d r
  obtain ⟨kv, hkv⟩ : ∃ x, wkS ⟨20, s, o, fin, l, c, f, q, y, c0, c1, c2, c3, c4, c5, c6, c7⟩ = x := ⟨_, rfl⟩
  rw [hkv] at hwb hwk HE
  clear hkv
  have HWK := Lib.hid (fun W => hwk W (show (0 : Int) ≤ 20 from by decide) (show (20 : Int) ≤ 30 from by decide) ho0)
  clear hwk
  have HWF := Lib.hid hwf
  have HDT := Lib.hid hdt
  have HRG := Lib.hid hrg
  have HCID := Lib.hid hcid
  clear hwf hdt hrg hcid
  obtain ⟨L, hL⟩ : ∃ L, frL ⟨20, s, o, fin, l, c, f, q, y, c0, c1, c2, c3, c4, c5, c6, c7⟩ d r = L := ⟨_, rfl⟩
  have hLl : L.length = 19 := by rw [← hL]; rfl
  have hfv : frV ⟨20, s, o, fin, l, c, f, q, y, c0, c1, c2, c3, c4, c5, c6, c7⟩ d r = .agg L.toArray := by rw [← hL]; rfl
  have hl_0 : L[0]? = some (.int .i64 20) := by rw [← hL]; rfl
  have hl_5 : L[5]? = some (.int .u64 l) := by rw [← hL]; rfl
  rw [hL] at hA0 hB0 hx0 hM hg
  rw [hfv] at HWK ⊢
  clear hL hfv
  have HL0 := Lib.hid hl_0
  clear hl_0
  have HL5 := Lib.hid hl_5
  clear hl_5
  have HLl := Lib.hid hLl
  clear hLl
  obtain ⟨dA, dn, dc⟩ := d
  obtain ⟨M, hMM⟩ : ∃ M, (w.alloc (.cells L.toArray 46)).heap.size = M := ⟨_, rfl⟩
  rw [hMM] at hx0 hM hg
  have HMM := Lib.hid hMM
  clear hMM
  go_enter Try.func32, Try.ntmps32
  go_wp2_with (first | ((with_reducible refine at_ld ?_); refine ld_fr_g _ _ (by rfl) (by rfl) hA0 HLl.out ?_) | fail)
  refine (HWK.out _).mono ?_
  rintro e w1 ⟨rfl, hb1⟩
  have hA1 := hA0.below hb1 (by rw [HMM.out]; exact hg)
  have hx1 := hx0.below hb1
  clear hA0 hx0 hb1
  have hm1 := hx1.2.2.2
  go_wp2_with fail
  refine (wvar_yes base p T v bs kv _ hx1.1 (by omega) hwb.1 (by omega) (by omega)).mono ?_
  rintro e w2 hw2
  obtain ⟨v2, rfl, hx2, hk2⟩ := hx1.step hM hw2
  have hA2 := hA1.kept hk2 (hx1.apart hg hn0)
  have hm2 := hx2.2.2.2
  clear hw2 hk2 hx1 hA1
  have e0 := (hA2.cell 0).trans HL0.out
  have f5 := (hA2.cell 5).trans HL5.out
  go_wp2_with fail
  refine (wvar_yes base p T v2 _ l _ hx2.1 (by simp only [List.length_append, List.length_cons, List.length_nil]; have z0 := putS_le kv; omega) hl0 (by omega) (by omega)).mono ?_
  rintro e w3 hw3
  obtain ⟨v3, rfl, hx3, hk3⟩ := hx2.step hM hw3
  have hA3 := hA2.kept hk3 (hx2.apart hg hn0)
  have hm3 := hx3.2.2.2
  clear hw3 hk3 hx2 hA2
  clear f5
  go_wp2_with fail
  go_end0
  have hfin := hx3.post hM (.tuple #[])
  try simp only [List.append_assoc] at hfin
  have hEE := HE.out
  try simp only [List.append_assoc] at hEE
  rw [hEE]
  exact hfin
set_option maxRecDepth 100000 in
set_option maxHeartbeats 1000000 in
theorem write_17 (base p : Nat) (T : TypeId) (v : Value) (bs : List Int) (s o l c f q y c0 c1 c2 c3 c4 c5 c6 c7 : Int) (fin : Bool) (d r : Sl) (ds : List Int) (rs : RS) (w : World) (h : Wtr w base p T v bs) (hl : bs.length ≤ 100000000000)
    (hf : Fits w (fun b => ¬ WS p v b) ⟨17, s, o, fin, l, c, f, q, y, c0, c1, c2, c3, c4, c5, c6, c7⟩ d r ds rs) (hr : rightB ⟨17, s, o, fin, l, c, f, q, y, c0, c1, c2, c3, c4, c5, c6, c7⟩ ds rs = true) (hbase : base ≤ w.heap.size) :
    Calls Try.prog 32 #[.pointer (some ⟨p, 0, none⟩), frV ⟨17, s, o, fin, l, c, f, q, y, c0, c1, c2, c3, c4, c5, c6, c7⟩ d r] w (WPost (.tuple #[]) w base p T v (bs ++ oneS ⟨17, s, o, fin, l, c, f, q, y, c0, c1, c2, c3, c4, c5, c6, c7⟩ ds rs)) := by
  obtain ⟨hwf, hdt, hrg⟩ := hf
  have hwb := wkS_bd ⟨17, s, o, fin, l, c, f, q, y, c0, c1, c2, c3, c4, c5, c6, c7⟩ (show (0 : Int) ≤ 17 from by decide) (show (17 : Int) ≤ 30 from by decide)
  have hbd : (s ≤ 4611686018427387903 ∧ l ≤ 4611686018427387903) := by
    simp [rightB, askN, nrB, smB, drB, FN.zero, knownB, askDs] at hr
    first | trivial | omega | exact ⟨by omega, hr.2⟩
  have hs0 := hwf.s0
  have ho0 := hwf.o0
  have hl0 := hwf.l0
  have hc0 := hwf.c0
  have hf0 := hwf.f0
  have hq0 := hwf.q0
  have hy0 := hwf.y0
  simp only at hs0 ho0 hl0 hc0 hf0 hq0 hy0
  have hcid : Byt (cidL ⟨17, s, o, fin, l, c, f, q, y, c0, c1, c2, c3, c4, c5, c6, c7⟩) := hwf.cid
  have hE : bs ++ oneS ⟨17, s, o, fin, l, c, f, q, y, c0, c1, c2, c3, c4, c5, c6, c7⟩ ds rs = bs ++ (putS (wkS ⟨17, s, o, fin, l, c, f, q, y, c0, c1, c2, c3, c4, c5, c6, c7⟩) ++ bodyS ⟨17, s, o, fin, l, c, f, q, y, c0, c1, c2, c3, c4, c5, c6, c7⟩ ds rs) := rfl
  have hbod : bodyS ⟨17, s, o, fin, l, c, f, q, y, c0, c1, c2, c3, c4, c5, c6, c7⟩ ds rs = putL [s, l] := by
    simp [bodyS]
  rw [hbod] at hE
  have HE := Lib.hid hE
  clear hE hbod hr
  have hW := h
  have hB0 : Below w.heap.size w (w.alloc (.cells (frL ⟨17, s, o, fin, l, c, f, q, y, c0, c1, c2, c3, c4, c5, c6, c7⟩ d r).toArray 46)) := (Below.refl _ _).alloc (Nat.le_refl _) _
  have hA0 : At (w.alloc (.cells (frL ⟨17, s, o, fin, l, c, f, q, y, c0, c1, c2, c3, c4, c5, c6, c7⟩ d r).toArray 46)) w.heap.size 46 (frL ⟨17, s, o, fin, l, c, f, q, y, c0, c1, c2, c3, c4, c5, c6, c7⟩ d r) := At.new w _ _
  have hx0 := WSx.refl hW hB0
  have hM : w.heap.size ≤ (w.alloc (.cells (frL ⟨17, s, o, fin, l, c, f, q, y, c0, c1, c2, c3, c4, c5, c6, c7⟩ d r).toArray 46)).heap.size := hB0.size
  have hg : w.heap.size < (w.alloc (.cells (frL ⟨17, s, o, fin, l, c, f, q, y, c0, c1, c2, c3, c4, c5, c6, c7⟩ d r).toArray 46)).heap.size := hA0.lt
  have hn0 := hW.not_new (g := w.heap.size) (Nat.le_refl _)
  have hwk := wk_any ⟨17, s, o, fin, l, c, f, q, y, c0, c1, c2, c3, c4, c5, c6, c7⟩ d r
  obtain ⟨kv, hkv⟩ : ∃ x, wkS ⟨17, s, o, fin, l, c, f, q, y, c0, c1, c2, c3, c4, c5, c6, c7⟩ = x := ⟨_, rfl⟩
  rw [hkv] at hwb hwk HE
  clear hkv
  have HWK := Lib.hid (fun W => hwk W (show (0 : Int) ≤ 17 from by decide) (show (17 : Int) ≤ 30 from by decide) ho0)
  clear hwk
  have HWF := Lib.hid hwf
  have HDT := Lib.hid hdt
  have HRG := Lib.hid hrg
  have HCID := Lib.hid hcid
  clear hwf hdt hrg hcid
  obtain ⟨L, hL⟩ : ∃ L, frL ⟨17, s, o, fin, l, c, f, q, y, c0, c1, c2, c3, c4, c5, c6, c7⟩ d r = L := ⟨_, rfl⟩
  have hLl : L.length = 19 := by rw [← hL]; rfl
  have hfv : frV ⟨17, s, o, fin, l, c, f, q, y, c0, c1, c2, c3, c4, c5, c6, c7⟩ d r = .agg L.toArray := by rw [← hL]; rfl
  have hl_0 : L[0]? = some (.int .i64 17) := by rw [← hL]; rfl
  have hl_1 : L[1]? = some (.int .u64 s) := by rw [← hL]; rfl
  have hl_5 : L[5]? = some (.int .u64 l) := by rw [← hL]; rfl
  rw [hL] at hA0 hB0 hx0 hM hg
  rw [hfv] at HWK ⊢
  clear hL hfv
  have HL0 := Lib.hid hl_0
  clear hl_0
  have HL1 := Lib.hid hl_1
  clear hl_1
  have HL5 := Lib.hid hl_5
  clear hl_5
  have HLl := Lib.hid hLl
  clear hLl
  obtain ⟨dA, dn, dc⟩ := d
  obtain ⟨M, hMM⟩ : ∃ M, (w.alloc (.cells L.toArray 46)).heap.size = M := ⟨_, rfl⟩
  rw [hMM] at hx0 hM hg
  have HMM := Lib.hid hMM
  clear hMM
  go_enter Try.func32, Try.ntmps32
  go_wp2_with (first | ((with_reducible refine at_ld ?_); refine ld_fr_g _ _ (by rfl) (by rfl) hA0 HLl.out ?_) | fail)
  refine (HWK.out _).mono ?_
  rintro e w1 ⟨rfl, hb1⟩
  have hA1 := hA0.below hb1 (by rw [HMM.out]; exact hg)
  have hx1 := hx0.below hb1
  clear hA0 hx0 hb1
  have hm1 := hx1.2.2.2
  go_wp2_with fail
  refine (wvar_yes base p T v bs kv _ hx1.1 (by omega) hwb.1 (by omega) (by omega)).mono ?_
  rintro e w2 hw2
  obtain ⟨v2, rfl, hx2, hk2⟩ := hx1.step hM hw2
  have hA2 := hA1.kept hk2 (hx1.apart hg hn0)
  have hm2 := hx2.2.2.2
  clear hw2 hk2 hx1 hA1
  have e0 := (hA2.cell 0).trans HL0.out
  have f1 := (hA2.cell 1).trans HL1.out
  have f5 := (hA2.cell 5).trans HL5.out
  go_wp2_with fail
  have hU := UsP.new w2 (fun b => ¬ WS p v2 b) 22 [s, l] (by intro x hx; simp at hx; omega) _ rfl w2.heap.size rfl (hx2.1.not_new (Nat.le_refl _))
  have hxa := hx2.alloc (.cells #[.int .u64 s, .int .u64 l] 22)
  have hAa := hA2.alloc (.cells #[.int .u64 s, .int .u64 l] 22)
  refine (wvars_any base p T v2 _ [s, l] _ 2 2 _ hxa.1 (by simp only [List.length_append, List.length_cons, List.length_nil]; have z0 := putS_le kv; omega) (by omega) (by omega) hU (by intro x hx; simp at hx; omega) (by have := hxa.2.2.2; omega)).mono ?_
  rintro e w3 hw3
  obtain ⟨v3, rfl, hx3, hk3⟩ := hxa.step hM hw3
  have hA3 := hAa.kept hk3 (hxa.apart hg hn0)
  have hm3 := hx3.2.2.2
  clear hw3 hk3 hx2 hA2 hxa hAa hU
  clear f1 f5
  go_wp2_with fail
  go_end0
  have hfin := hx3.post hM (.tuple #[])
  try simp only [List.append_assoc] at hfin
  have hEE := HE.out
  try simp only [List.append_assoc] at hEE
  rw [hEE]
  exact hfin
set_option maxRecDepth 100000 in
set_option maxHeartbeats 1000000 in
theorem write_24 (base p : Nat) (T : TypeId) (v : Value) (bs : List Int) (s o l c f q y c0 c1 c2 c3 c4 c5 c6 c7 : Int) (fin : Bool) (d r : Sl) (ds : List Int) (rs : RS) (w : World) (h : Wtr w base p T v bs) (hl : bs.length ≤ 100000000000)
    (hf : Fits w (fun b => ¬ WS p v b) ⟨24, s, o, fin, l, c, f, q, y, c0, c1, c2, c3, c4, c5, c6, c7⟩ d r ds rs) (hr : rightB ⟨24, s, o, fin, l, c, f, q, y, c0, c1, c2, c3, c4, c5, c6, c7⟩ ds rs = true) (hbase : base ≤ w.heap.size) :
    Calls Try.prog 32 #[.pointer (some ⟨p, 0, none⟩), frV ⟨24, s, o, fin, l, c, f, q, y, c0, c1, c2, c3, c4, c5, c6, c7⟩ d r] w (WPost (.tuple #[]) w base p T v (bs ++ oneS ⟨24, s, o, fin, l, c, f, q, y, c0, c1, c2, c3, c4, c5, c6, c7⟩ ds rs)) := by
  obtain ⟨hwf, hdt, hrg⟩ := hf
  have hwb := wkS_bd ⟨24, s, o, fin, l, c, f, q, y, c0, c1, c2, c3, c4, c5, c6, c7⟩ (show (0 : Int) ≤ 24 from by decide) (show (24 : Int) ≤ 30 from by decide)
  have hbd : (q ≤ 4611686018427387903 ∧ l ≤ 4611686018427387903) := by
    simp [rightB, askN, nrB, smB, drB, FN.zero, knownB, askDs] at hr
    first | trivial | omega | exact ⟨by omega, hr.2⟩
  have hs0 := hwf.s0
  have ho0 := hwf.o0
  have hl0 := hwf.l0
  have hc0 := hwf.c0
  have hf0 := hwf.f0
  have hq0 := hwf.q0
  have hy0 := hwf.y0
  simp only at hs0 ho0 hl0 hc0 hf0 hq0 hy0
  have hcid : Byt (cidL ⟨24, s, o, fin, l, c, f, q, y, c0, c1, c2, c3, c4, c5, c6, c7⟩) := hwf.cid
  have hE : bs ++ oneS ⟨24, s, o, fin, l, c, f, q, y, c0, c1, c2, c3, c4, c5, c6, c7⟩ ds rs = bs ++ (putS (wkS ⟨24, s, o, fin, l, c, f, q, y, c0, c1, c2, c3, c4, c5, c6, c7⟩) ++ bodyS ⟨24, s, o, fin, l, c, f, q, y, c0, c1, c2, c3, c4, c5, c6, c7⟩ ds rs) := rfl
  have hbod : bodyS ⟨24, s, o, fin, l, c, f, q, y, c0, c1, c2, c3, c4, c5, c6, c7⟩ ds rs = putL [q, l] ++ [8] ++ cidL ⟨24, s, o, fin, l, c, f, q, y, c0, c1, c2, c3, c4, c5, c6, c7⟩ := by
    simp [bodyS]
  rw [hbod] at hE
  have HE := Lib.hid hE
  clear hE hbod hr
  have hW := h
  have hB0 : Below w.heap.size w (w.alloc (.cells (frL ⟨24, s, o, fin, l, c, f, q, y, c0, c1, c2, c3, c4, c5, c6, c7⟩ d r).toArray 46)) := (Below.refl _ _).alloc (Nat.le_refl _) _
  have hA0 : At (w.alloc (.cells (frL ⟨24, s, o, fin, l, c, f, q, y, c0, c1, c2, c3, c4, c5, c6, c7⟩ d r).toArray 46)) w.heap.size 46 (frL ⟨24, s, o, fin, l, c, f, q, y, c0, c1, c2, c3, c4, c5, c6, c7⟩ d r) := At.new w _ _
  have hx0 := WSx.refl hW hB0
  have hM : w.heap.size ≤ (w.alloc (.cells (frL ⟨24, s, o, fin, l, c, f, q, y, c0, c1, c2, c3, c4, c5, c6, c7⟩ d r).toArray 46)).heap.size := hB0.size
  have hg : w.heap.size < (w.alloc (.cells (frL ⟨24, s, o, fin, l, c, f, q, y, c0, c1, c2, c3, c4, c5, c6, c7⟩ d r).toArray 46)).heap.size := hA0.lt
  have hn0 := hW.not_new (g := w.heap.size) (Nat.le_refl _)
  have hwk := wk_any ⟨24, s, o, fin, l, c, f, q, y, c0, c1, c2, c3, c4, c5, c6, c7⟩ d r
  obtain ⟨kv, hkv⟩ : ∃ x, wkS ⟨24, s, o, fin, l, c, f, q, y, c0, c1, c2, c3, c4, c5, c6, c7⟩ = x := ⟨_, rfl⟩
  rw [hkv] at hwb hwk HE
  clear hkv
  have HWK := Lib.hid (fun W => hwk W (show (0 : Int) ≤ 24 from by decide) (show (24 : Int) ≤ 30 from by decide) ho0)
  clear hwk
  have HWF := Lib.hid hwf
  have HDT := Lib.hid hdt
  have HRG := Lib.hid hrg
  have HCID := Lib.hid hcid
  clear hwf hdt hrg hcid
  obtain ⟨L, hL⟩ : ∃ L, frL ⟨24, s, o, fin, l, c, f, q, y, c0, c1, c2, c3, c4, c5, c6, c7⟩ d r = L := ⟨_, rfl⟩
  have hLl : L.length = 19 := by rw [← hL]; rfl
  have hfv : frV ⟨24, s, o, fin, l, c, f, q, y, c0, c1, c2, c3, c4, c5, c6, c7⟩ d r = .agg L.toArray := by rw [← hL]; rfl
  have hl_0 : L[0]? = some (.int .i64 24) := by rw [← hL]; rfl
  have hl_5 : L[5]? = some (.int .u64 l) := by rw [← hL]; rfl
  have hl_8 : L[8]? = some (.int .u64 q) := by rw [← hL]; rfl
  have hcr : ∀ W : World, At W w.heap.size 46 L → Rd W W.heap.size (some ⟨w.heap.size, 11, none⟩) 8 (cidL ⟨24, s, o, fin, l, c, f, q, y, c0, c1, c2, c3, c4, c5, c6, c7⟩) := fun W hW => cid_rd ⟨24, s, o, fin, l, c, f, q, y, c0, c1, c2, c3, c4, c5, c6, c7⟩ d r (by rw [hL]; exact hW) HCID.out
  have HCR := Lib.hid hcr
  clear hcr
  rw [hL] at hA0 hB0 hx0 hM hg
  rw [hfv] at HWK ⊢
  clear hL hfv
  have HL0 := Lib.hid hl_0
  clear hl_0
  have HL5 := Lib.hid hl_5
  clear hl_5
  have HL8 := Lib.hid hl_8
  clear hl_8
  have HLl := Lib.hid hLl
  clear hLl
  obtain ⟨dA, dn, dc⟩ := d
  obtain ⟨M, hMM⟩ : ∃ M, (w.alloc (.cells L.toArray 46)).heap.size = M := ⟨_, rfl⟩
  rw [hMM] at hx0 hM hg
  have HMM := Lib.hid hMM
  clear hMM
  go_enter Try.func32, Try.ntmps32
  go_wp2_with (first | ((with_reducible refine at_ld ?_); refine ld_fr_g _ _ (by rfl) (by rfl) hA0 HLl.out ?_) | fail)
  refine (HWK.out _).mono ?_
  rintro e w1 ⟨rfl, hb1⟩
  have hA1 := hA0.below hb1 (by rw [HMM.out]; exact hg)
  have hx1 := hx0.below hb1
  clear hA0 hx0 hb1
  have hm1 := hx1.2.2.2
  go_wp2_with fail
  refine (wvar_yes base p T v bs kv _ hx1.1 (by omega) hwb.1 (by omega) (by omega)).mono ?_
  rintro e w2 hw2
  obtain ⟨v2, rfl, hx2, hk2⟩ := hx1.step hM hw2
  have hA2 := hA1.kept hk2 (hx1.apart hg hn0)
  have hm2 := hx2.2.2.2
  clear hw2 hk2 hx1 hA1
  have e0 := (hA2.cell 0).trans HL0.out
  have f5 := (hA2.cell 5).trans HL5.out
  have f8 := (hA2.cell 8).trans HL8.out
  go_wp2_with fail
  have hU := UsP.new w2 (fun b => ¬ WS p v2 b) 22 [q, l] (by intro x hx; simp at hx; omega) _ rfl w2.heap.size rfl (hx2.1.not_new (Nat.le_refl _))
  have hxa := hx2.alloc (.cells #[.int .u64 q, .int .u64 l] 22)
  have hAa := hA2.alloc (.cells #[.int .u64 q, .int .u64 l] 22)
  refine (wvars_any base p T v2 _ [q, l] _ 2 2 _ hxa.1 (by simp only [List.length_append, List.length_cons, List.length_nil]; have z0 := putS_le kv; omega) (by omega) (by omega) hU (by intro x hx; simp at hx; omega) (by have := hxa.2.2.2; omega)).mono ?_
  rintro e w3 hw3
  obtain ⟨v3, rfl, hx3, hk3⟩ := hxa.step hM hw3
  have hA3 := hAa.kept hk3 (hxa.apart hg hn0)
  have hm3 := hx3.2.2.2
  clear hw3 hk3 hx2 hA2 hxa hAa hU
  clear f5 f8
  go_wp2_with fail
  refine (wbyte_any base p T v3 _ 8 _ hx3.1 (by simp only [List.length_append, List.length_cons, List.length_nil]; have z0 := putS_le kv; have z1 := putL_len [q, l]; simp only [List.length_cons, List.length_nil] at z1; omega) (by omega) (by omega) (by omega)).mono ?_
  rintro e w4 hw4
  obtain ⟨v4, rfl, hx4, hk4⟩ := hx3.step hM hw4
  have hA4 := hA3.kept hk4 (hx3.apart hg hn0)
  have hm4 := hx4.2.2.2
  clear hw4 hk4 hx3 hA3
  go_wp2_with fail
  refine (wraw_any base p T v4 _ (some ⟨w.heap.size, 11, none⟩) 8 8 (cidL ⟨24, s, o, fin, l, c, f, q, y, c0, c1, c2, c3, c4, c5, c6, c7⟩) _ hx4.1 (by simp only [List.length_append, List.length_cons, List.length_nil]; have z0 := putS_le kv; have z1 := putL_len [q, l]; simp only [List.length_cons, List.length_nil] at z1; omega) (HCR.out _ hA4) (by omega)).mono ?_
  rintro e w5 hw5
  obtain ⟨v5, rfl, hx5, hk5⟩ := hx4.step hM hw5
  have hA5 := hA4.kept hk5 (hx4.apart hg hn0)
  have hm5 := hx5.2.2.2
  clear hw5 hk5 hx4 hA4
  go_wp2_with fail
  go_end0
  have hfin := hx5.post hM (.tuple #[])
  try simp only [List.append_assoc] at hfin
  have hEE := HE.out
  try simp only [List.append_assoc] at hEE
  rw [hEE]
  exact hfin
set_option maxRecDepth 100000 in
set_option maxHeartbeats 1000000 in
theorem write_25 (base p : Nat) (T : TypeId) (v : Value) (bs : List Int) (s o l c f q y c0 c1 c2 c3 c4 c5 c6 c7 : Int) (fin : Bool) (d r : Sl) (ds : List Int) (rs : RS) (w : World) (h : Wtr w base p T v bs) (hl : bs.length ≤ 100000000000)
    (hf : Fits w (fun b => ¬ WS p v b) ⟨25, s, o, fin, l, c, f, q, y, c0, c1, c2, c3, c4, c5, c6, c7⟩ d r ds rs) (hr : rightB ⟨25, s, o, fin, l, c, f, q, y, c0, c1, c2, c3, c4, c5, c6, c7⟩ ds rs = true) (hbase : base ≤ w.heap.size) :
    Calls Try.prog 32 #[.pointer (some ⟨p, 0, none⟩), frV ⟨25, s, o, fin, l, c, f, q, y, c0, c1, c2, c3, c4, c5, c6, c7⟩ d r] w (WPost (.tuple #[]) w base p T v (bs ++ oneS ⟨25, s, o, fin, l, c, f, q, y, c0, c1, c2, c3, c4, c5, c6, c7⟩ ds rs)) := by
  obtain ⟨hwf, hdt, hrg⟩ := hf
  have hwb := wkS_bd ⟨25, s, o, fin, l, c, f, q, y, c0, c1, c2, c3, c4, c5, c6, c7⟩ (show (0 : Int) ≤ 25 from by decide) (show (25 : Int) ≤ 30 from by decide)
  have hbd : (q ≤ 4611686018427387903) := by
    simp [rightB, askN, nrB, smB, drB, FN.zero, knownB, askDs] at hr
    first | trivial | omega | exact ⟨by omega, hr.2⟩
  have hs0 := hwf.s0
  have ho0 := hwf.o0
  have hl0 := hwf.l0
  have hc0 := hwf.c0
  have hf0 := hwf.f0
  have hq0 := hwf.q0
  have hy0 := hwf.y0
  simp only at hs0 ho0 hl0 hc0 hf0 hq0 hy0
  have hcid : Byt (cidL ⟨25, s, o, fin, l, c, f, q, y, c0, c1, c2, c3, c4, c5, c6, c7⟩) := hwf.cid
  have hE : bs ++ oneS ⟨25, s, o, fin, l, c, f, q, y, c0, c1, c2, c3, c4, c5, c6, c7⟩ ds rs = bs ++ (putS (wkS ⟨25, s, o, fin, l, c, f, q, y, c0, c1, c2, c3, c4, c5, c6, c7⟩) ++ bodyS ⟨25, s, o, fin, l, c, f, q, y, c0, c1, c2, c3, c4, c5, c6, c7⟩ ds rs) := rfl
  have hbod : bodyS ⟨25, s, o, fin, l, c, f, q, y, c0, c1, c2, c3, c4, c5, c6, c7⟩ ds rs = putS q := by
    simp [bodyS]
  rw [hbod] at hE
  have HE := Lib.hid hE
  clear hE hbod hr
  have hW := h
  have hB0 : Below w.heap.size w (w.alloc (.cells (frL ⟨25, s, o, fin, l, c, f, q, y, c0, c1, c2, c3, c4, c5, c6, c7⟩ d r).toArray 46)) := (Below.refl _ _).alloc (Nat.le_refl _) _
  have hA0 : At (w.alloc (.cells (frL ⟨25, s, o, fin, l, c, f, q, y, c0, c1, c2, c3, c4, c5, c6, c7⟩ d r).toArray 46)) w.heap.size 46 (frL ⟨25, s, o, fin, l, c, f, q, y, c0, c1, c2, c3, c4, c5, c6, c7⟩ d r) := At.new w _ _
  have hx0 := WSx.refl hW hB0
  have hM : w.heap.size ≤ (w.alloc (.cells (frL ⟨25, s, o, fin, l, c, f, q, y, c0, c1, c2, c3, c4, c5, c6, c7⟩ d r).toArray 46)).heap.size := hB0.size
  have hg : w.heap.size < (w.alloc (.cells (frL ⟨25, s, o, fin, l, c, f, q, y, c0, c1, c2, c3, c4, c5, c6, c7⟩ d r).toArray 46)).heap.size := hA0.lt
  have hn0 := hW.not_new (g := w.heap.size) (Nat.le_refl _)
  have hwk := wk_any ⟨25, s, o, fin, l, c, f, q, y, c0, c1, c2, c3, c4, c5, c6, c7⟩ d r
  obtain ⟨kv, hkv⟩ : ∃ x, wkS ⟨25, s, o, fin, l, c, f, q, y, c0, c1, c2, c3, c4, c5, c6, c7⟩ = x := ⟨_, rfl⟩
  rw [hkv] at hwb hwk HE
  clear hkv
  have HWK := Lib.hid (fun W => hwk W (show (0 : Int) ≤ 25 from by decide) (show (25 : Int) ≤ 30 from by decide) ho0)
  clear hwk
  have HWF := Lib.hid hwf
  have HDT := Lib.hid hdt
  have HRG := Lib.hid hrg
  have HCID := Lib.hid hcid
  clear hwf hdt hrg hcid
  obtain ⟨L, hL⟩ : ∃ L, frL ⟨25, s, o, fin, l, c, f, q, y, c0, c1, c2, c3, c4, c5, c6, c7⟩ d r = L := ⟨_, rfl⟩
  have hLl : L.length = 19 := by rw [← hL]; rfl
  have hfv : frV ⟨25, s, o, fin, l, c, f, q, y, c0, c1, c2, c3, c4, c5, c6, c7⟩ d r = .agg L.toArray := by rw [← hL]; rfl
  have hl_0 : L[0]? = some (.int .i64 25) := by rw [← hL]; rfl
  have hl_8 : L[8]? = some (.int .u64 q) := by rw [← hL]; rfl
  rw [hL] at hA0 hB0 hx0 hM hg
  rw [hfv] at HWK ⊢
  clear hL hfv
  have HL0 := Lib.hid hl_0
  clear hl_0
  have HL8 := Lib.hid hl_8
  clear hl_8
  have HLl := Lib.hid hLl
  clear hLl
  obtain ⟨dA, dn, dc⟩ := d
  obtain ⟨M, hMM⟩ : ∃ M, (w.alloc (.cells L.toArray 46)).heap.size = M := ⟨_, rfl⟩
  rw [hMM] at hx0 hM hg
  have HMM := Lib.hid hMM
  clear hMM
  go_enter Try.func32, Try.ntmps32
  go_wp2_with (first | ((with_reducible refine at_ld ?_); refine ld_fr_g _ _ (by rfl) (by rfl) hA0 HLl.out ?_) | fail)
  refine (HWK.out _).mono ?_
  rintro e w1 ⟨rfl, hb1⟩
  have hA1 := hA0.below hb1 (by rw [HMM.out]; exact hg)
  have hx1 := hx0.below hb1
  clear hA0 hx0 hb1
  have hm1 := hx1.2.2.2
  go_wp2_with fail
  refine (wvar_yes base p T v bs kv _ hx1.1 (by omega) hwb.1 (by omega) (by omega)).mono ?_
  rintro e w2 hw2
  obtain ⟨v2, rfl, hx2, hk2⟩ := hx1.step hM hw2
  have hA2 := hA1.kept hk2 (hx1.apart hg hn0)
  have hm2 := hx2.2.2.2
  clear hw2 hk2 hx1 hA1
  have e0 := (hA2.cell 0).trans HL0.out
  have f8 := (hA2.cell 8).trans HL8.out
  go_wp2_with fail
  refine (wvar_yes base p T v2 _ q _ hx2.1 (by simp only [List.length_append, List.length_cons, List.length_nil]; have z0 := putS_le kv; omega) hq0 (by omega) (by omega)).mono ?_
  rintro e w3 hw3
  obtain ⟨v3, rfl, hx3, hk3⟩ := hx2.step hM hw3
  have hA3 := hA2.kept hk3 (hx2.apart hg hn0)
  have hm3 := hx3.2.2.2
  clear hw3 hk3 hx2 hA2
  clear f8
  go_wp2_with fail
  go_end0
  have hfin := hx3.post hM (.tuple #[])
  try simp only [List.append_assoc] at hfin
  have hEE := HE.out
  try simp only [List.append_assoc] at hEE
  rw [hEE]
  exact hfin
set_option maxRecDepth 100000 in
set_option maxHeartbeats 1000000 in
theorem write_26 (base p : Nat) (T : TypeId) (v : Value) (bs : List Int) (s o l c f q y c0 c1 c2 c3 c4 c5 c6 c7 : Int) (fin : Bool) (d r : Sl) (ds : List Int) (rs : RS) (w : World) (h : Wtr w base p T v bs) (hl : bs.length ≤ 100000000000)
    (hf : Fits w (fun b => ¬ WS p v b) ⟨26, s, o, fin, l, c, f, q, y, c0, c1, c2, c3, c4, c5, c6, c7⟩ d r ds rs) (hr : rightB ⟨26, s, o, fin, l, c, f, q, y, c0, c1, c2, c3, c4, c5, c6, c7⟩ ds rs = true) (hbase : base ≤ w.heap.size) :
    Calls Try.prog 32 #[.pointer (some ⟨p, 0, none⟩), frV ⟨26, s, o, fin, l, c, f, q, y, c0, c1, c2, c3, c4, c5, c6, c7⟩ d r] w (WPost (.tuple #[]) w base p T v (bs ++ oneS ⟨26, s, o, fin, l, c, f, q, y, c0, c1, c2, c3, c4, c5, c6, c7⟩ ds rs)) := by
  obtain ⟨hwf, hdt, hrg⟩ := hf
  have hwb := wkS_bd ⟨26, s, o, fin, l, c, f, q, y, c0, c1, c2, c3, c4, c5, c6, c7⟩ (show (0 : Int) ≤ 26 from by decide) (show (26 : Int) ≤ 30 from by decide)
  have hbd : (True) := by
    simp [rightB, askN, nrB, smB, drB, FN.zero, knownB, askDs] at hr
    first | trivial | omega | exact ⟨by omega, hr.2⟩
  have hs0 := hwf.s0
  have ho0 := hwf.o0
  have hl0 := hwf.l0
  have hc0 := hwf.c0
  have hf0 := hwf.f0
  have hq0 := hwf.q0
  have hy0 := hwf.y0
  simp only at hs0 ho0 hl0 hc0 hf0 hq0 hy0
  have hcid : Byt (cidL ⟨26, s, o, fin, l, c, f, q, y, c0, c1, c2, c3, c4, c5, c6, c7⟩) := hwf.cid
  have hE : bs ++ oneS ⟨26, s, o, fin, l, c, f, q, y, c0, c1, c2, c3, c4, c5, c6, c7⟩ ds rs = bs ++ (putS (wkS ⟨26, s, o, fin, l, c, f, q, y, c0, c1, c2, c3, c4, c5, c6, c7⟩) ++ bodyS ⟨26, s, o, fin, l, c, f, q, y, c0, c1, c2, c3, c4, c5, c6, c7⟩ ds rs) := rfl
  have hbod : bodyS ⟨26, s, o, fin, l, c, f, q, y, c0, c1, c2, c3, c4, c5, c6, c7⟩ ds rs = cidL ⟨26, s, o, fin, l, c, f, q, y, c0, c1, c2, c3, c4, c5, c6, c7⟩ := by
    simp [bodyS]
  rw [hbod] at hE
  have HE := Lib.hid hE
  clear hE hbod hr
  have hW := h
  have hB0 : Below w.heap.size w (w.alloc (.cells (frL ⟨26, s, o, fin, l, c, f, q, y, c0, c1, c2, c3, c4, c5, c6, c7⟩ d r).toArray 46)) := (Below.refl _ _).alloc (Nat.le_refl _) _
  have hA0 : At (w.alloc (.cells (frL ⟨26, s, o, fin, l, c, f, q, y, c0, c1, c2, c3, c4, c5, c6, c7⟩ d r).toArray 46)) w.heap.size 46 (frL ⟨26, s, o, fin, l, c, f, q, y, c0, c1, c2, c3, c4, c5, c6, c7⟩ d r) := At.new w _ _
  have hx0 := WSx.refl hW hB0
  have hM : w.heap.size ≤ (w.alloc (.cells (frL ⟨26, s, o, fin, l, c, f, q, y, c0, c1, c2, c3, c4, c5, c6, c7⟩ d r).toArray 46)).heap.size := hB0.size
  have hg : w.heap.size < (w.alloc (.cells (frL ⟨26, s, o, fin, l, c, f, q, y, c0, c1, c2, c3, c4, c5, c6, c7⟩ d r).toArray 46)).heap.size := hA0.lt
  have hn0 := hW.not_new (g := w.heap.size) (Nat.le_refl _)
  have hwk := wk_any ⟨26, s, o, fin, l, c, f, q, y, c0, c1, c2, c3, c4, c5, c6, c7⟩ d r
  obtain ⟨kv, hkv⟩ : ∃ x, wkS ⟨26, s, o, fin, l, c, f, q, y, c0, c1, c2, c3, c4, c5, c6, c7⟩ = x := ⟨_, rfl⟩
  rw [hkv] at hwb hwk HE
  clear hkv
  have HWK := Lib.hid (fun W => hwk W (show (0 : Int) ≤ 26 from by decide) (show (26 : Int) ≤ 30 from by decide) ho0)
  clear hwk
  have HWF := Lib.hid hwf
  have HDT := Lib.hid hdt
  have HRG := Lib.hid hrg
  have HCID := Lib.hid hcid
  clear hwf hdt hrg hcid
  obtain ⟨L, hL⟩ : ∃ L, frL ⟨26, s, o, fin, l, c, f, q, y, c0, c1, c2, c3, c4, c5, c6, c7⟩ d r = L := ⟨_, rfl⟩
  have hLl : L.length = 19 := by rw [← hL]; rfl
  have hfv : frV ⟨26, s, o, fin, l, c, f, q, y, c0, c1, c2, c3, c4, c5, c6, c7⟩ d r = .agg L.toArray := by rw [← hL]; rfl
  have hl_0 : L[0]? = some (.int .i64 26) := by rw [← hL]; rfl
  have hcr : ∀ W : World, At W w.heap.size 46 L → Rd W W.heap.size (some ⟨w.heap.size, 11, none⟩) 8 (cidL ⟨26, s, o, fin, l, c, f, q, y, c0, c1, c2, c3, c4, c5, c6, c7⟩) := fun W hW => cid_rd ⟨26, s, o, fin, l, c, f, q, y, c0, c1, c2, c3, c4, c5, c6, c7⟩ d r (by rw [hL]; exact hW) HCID.out
  have HCR := Lib.hid hcr
  clear hcr
  rw [hL] at hA0 hB0 hx0 hM hg
  rw [hfv] at HWK ⊢
  clear hL hfv
  have HL0 := Lib.hid hl_0
  clear hl_0
  have HLl := Lib.hid hLl
  clear hLl
  obtain ⟨dA, dn, dc⟩ := d
  obtain ⟨M, hMM⟩ : ∃ M, (w.alloc (.cells L.toArray 46)).heap.size = M := ⟨_, rfl⟩
  rw [hMM] at hx0 hM hg
  have HMM := Lib.hid hMM
  clear hMM
  go_enter Try.func32, Try.ntmps32
  go_wp2_with (first | ((with_reducible refine at_ld ?_); refine ld_fr_g _ _ (by rfl) (by rfl) hA0 HLl.out ?_) | fail)
  refine (HWK.out _).mono ?_
  rintro e w1 ⟨rfl, hb1⟩
  have hA1 := hA0.below hb1 (by rw [HMM.out]; exact hg)
  have hx1 := hx0.below hb1
  clear hA0 hx0 hb1
  have hm1 := hx1.2.2.2
  go_wp2_with fail
  refine (wvar_yes base p T v bs kv _ hx1.1 (by omega) hwb.1 (by omega) (by omega)).mono ?_
  rintro e w2 hw2
  obtain ⟨v2, rfl, hx2, hk2⟩ := hx1.step hM hw2
  have hA2 := hA1.kept hk2 (hx1.apart hg hn0)
  have hm2 := hx2.2.2.2
  clear hw2 hk2 hx1 hA1
  have e0 := (hA2.cell 0).trans HL0.out
  go_wp2_with fail
  refine (wraw_any base p T v2 _ (some ⟨w.heap.size, 11, none⟩) 8 8 (cidL ⟨26, s, o, fin, l, c, f, q, y, c0, c1, c2, c3, c4, c5, c6, c7⟩) _ hx2.1 (by simp only [List.length_append, List.length_cons, List.length_nil]; have z0 := putS_le kv; omega) (HCR.out _ hA2) (by omega)).mono ?_
  rintro e w3 hw3
  obtain ⟨v3, rfl, hx3, hk3⟩ := hx2.step hM hw3
  have hA3 := hA2.kept hk3 (hx2.apart hg hn0)
  have hm3 := hx3.2.2.2
  clear hw3 hk3 hx2 hA2
  go_wp2_with fail
  go_end0
  have hfin := hx3.post hM (.tuple #[])
  try simp only [List.append_assoc] at hfin
  have hEE := HE.out
  try simp only [List.append_assoc] at hEE
  rw [hEE]
  exact hfin
set_option maxRecDepth 100000 in
set_option maxHeartbeats 1000000 in
theorem write_27 (base p : Nat) (T : TypeId) (v : Value) (bs : List Int) (s o l c f q y c0 c1 c2 c3 c4 c5 c6 c7 : Int) (fin : Bool) (d r : Sl) (ds : List Int) (rs : RS) (w : World) (h : Wtr w base p T v bs) (hl : bs.length ≤ 100000000000)
    (hf : Fits w (fun b => ¬ WS p v b) ⟨27, s, o, fin, l, c, f, q, y, c0, c1, c2, c3, c4, c5, c6, c7⟩ d r ds rs) (hr : rightB ⟨27, s, o, fin, l, c, f, q, y, c0, c1, c2, c3, c4, c5, c6, c7⟩ ds rs = true) (hbase : base ≤ w.heap.size) :
    Calls Try.prog 32 #[.pointer (some ⟨p, 0, none⟩), frV ⟨27, s, o, fin, l, c, f, q, y, c0, c1, c2, c3, c4, c5, c6, c7⟩ d r] w (WPost (.tuple #[]) w base p T v (bs ++ oneS ⟨27, s, o, fin, l, c, f, q, y, c0, c1, c2, c3, c4, c5, c6, c7⟩ ds rs)) := by
  obtain ⟨hwf, hdt, hrg⟩ := hf
  have hwb := wkS_bd ⟨27, s, o, fin, l, c, f, q, y, c0, c1, c2, c3, c4, c5, c6, c7⟩ (show (0 : Int) ≤ 27 from by decide) (show (27 : Int) ≤ 30 from by decide)
  have hbd : (True) := by
    simp [rightB, askN, nrB, smB, drB, FN.zero, knownB, askDs] at hr
    first | trivial | omega | exact ⟨by omega, hr.2⟩
  have hs0 := hwf.s0
  have ho0 := hwf.o0
  have hl0 := hwf.l0
  have hc0 := hwf.c0
  have hf0 := hwf.f0
  have hq0 := hwf.q0
  have hy0 := hwf.y0
  simp only at hs0 ho0 hl0 hc0 hf0 hq0 hy0
  have hcid : Byt (cidL ⟨27, s, o, fin, l, c, f, q, y, c0, c1, c2, c3, c4, c5, c6, c7⟩) := hwf.cid
  have hE : bs ++ oneS ⟨27, s, o, fin, l, c, f, q, y, c0, c1, c2, c3, c4, c5, c6, c7⟩ ds rs = bs ++ (putS (wkS ⟨27, s, o, fin, l, c, f, q, y, c0, c1, c2, c3, c4, c5, c6, c7⟩) ++ bodyS ⟨27, s, o, fin, l, c, f, q, y, c0, c1, c2, c3, c4, c5, c6, c7⟩ ds rs) := rfl
  have hbod : bodyS ⟨27, s, o, fin, l, c, f, q, y, c0, c1, c2, c3, c4, c5, c6, c7⟩ ds rs = cidL ⟨27, s, o, fin, l, c, f, q, y, c0, c1, c2, c3, c4, c5, c6, c7⟩ := by
    simp [bodyS]
  rw [hbod] at hE
  have HE := Lib.hid hE
  clear hE hbod hr
  have hW := h
  have hB0 : Below w.heap.size w (w.alloc (.cells (frL ⟨27, s, o, fin, l, c, f, q, y, c0, c1, c2, c3, c4, c5, c6, c7⟩ d r).toArray 46)) := (Below.refl _ _).alloc (Nat.le_refl _) _
  have hA0 : At (w.alloc (.cells (frL ⟨27, s, o, fin, l, c, f, q, y, c0, c1, c2, c3, c4, c5, c6, c7⟩ d r).toArray 46)) w.heap.size 46 (frL ⟨27, s, o, fin, l, c, f, q, y, c0, c1, c2, c3, c4, c5, c6, c7⟩ d r) := At.new w _ _
  have hx0 := WSx.refl hW hB0
  have hM : w.heap.size ≤ (w.alloc (.cells (frL ⟨27, s, o, fin, l, c, f, q, y, c0, c1, c2, c3, c4, c5, c6, c7⟩ d r).toArray 46)).heap.size := hB0.size
  have hg : w.heap.size < (w.alloc (.cells (frL ⟨27, s, o, fin, l, c, f, q, y, c0, c1, c2, c3, c4, c5, c6, c7⟩ d r).toArray 46)).heap.size := hA0.lt
  have hn0 := hW.not_new (g := w.heap.size) (Nat.le_refl _)
  have hwk := wk_any ⟨27, s, o, fin, l, c, f, q, y, c0, c1, c2, c3, c4, c5, c6, c7⟩ d r
  obtain ⟨kv, hkv⟩ : ∃ x, wkS ⟨27, s, o, fin, l, c, f, q, y, c0, c1, c2, c3, c4, c5, c6, c7⟩ = x := ⟨_, rfl⟩
  rw [hkv] at hwb hwk HE
  clear hkv
  have HWK := Lib.hid (fun W => hwk W (show (0 : Int) ≤ 27 from by decide) (show (27 : Int) ≤ 30 from by decide) ho0)
  clear hwk
  have HWF := Lib.hid hwf
  have HDT := Lib.hid hdt
  have HRG := Lib.hid hrg
  have HCID := Lib.hid hcid
  clear hwf hdt hrg hcid
  obtain ⟨L, hL⟩ : ∃ L, frL ⟨27, s, o, fin, l, c, f, q, y, c0, c1, c2, c3, c4, c5, c6, c7⟩ d r = L := ⟨_, rfl⟩
  have hLl : L.length = 19 := by rw [← hL]; rfl
  have hfv : frV ⟨27, s, o, fin, l, c, f, q, y, c0, c1, c2, c3, c4, c5, c6, c7⟩ d r = .agg L.toArray := by rw [← hL]; rfl
  have hl_0 : L[0]? = some (.int .i64 27) := by rw [← hL]; rfl
  have hcr : ∀ W : World, At W w.heap.size 46 L → Rd W W.heap.size (some ⟨w.heap.size, 11, none⟩) 8 (cidL ⟨27, s, o, fin, l, c, f, q, y, c0, c1, c2, c3, c4, c5, c6, c7⟩) := fun W hW => cid_rd ⟨27, s, o, fin, l, c, f, q, y, c0, c1, c2, c3, c4, c5, c6, c7⟩ d r (by rw [hL]; exact hW) HCID.out
  have HCR := Lib.hid hcr
  clear hcr
  rw [hL] at hA0 hB0 hx0 hM hg
  rw [hfv] at HWK ⊢
  clear hL hfv
  have HL0 := Lib.hid hl_0
  clear hl_0
  have HLl := Lib.hid hLl
  clear hLl
  obtain ⟨dA, dn, dc⟩ := d
  obtain ⟨M, hMM⟩ : ∃ M, (w.alloc (.cells L.toArray 46)).heap.size = M := ⟨_, rfl⟩
  rw [hMM] at hx0 hM hg
  have HMM := Lib.hid hMM
  clear hMM
  go_enter Try.func32, Try.ntmps32
  go_wp2_with (first | ((with_reducible refine at_ld ?_); refine ld_fr_g _ _ (by rfl) (by rfl) hA0 HLl.out ?_) | fail)
  refine (HWK.out _).mono ?_
  rintro e w1 ⟨rfl, hb1⟩
  have hA1 := hA0.below hb1 (by rw [HMM.out]; exact hg)
  have hx1 := hx0.below hb1
  clear hA0 hx0 hb1
  have hm1 := hx1.2.2.2
  go_wp2_with fail
  refine (wvar_yes base p T v bs kv _ hx1.1 (by omega) hwb.1 (by omega) (by omega)).mono ?_
  rintro e w2 hw2
  obtain ⟨v2, rfl, hx2, hk2⟩ := hx1.step hM hw2
  have hA2 := hA1.kept hk2 (hx1.apart hg hn0)
  have hm2 := hx2.2.2.2
  clear hw2 hk2 hx1 hA1
  have e0 := (hA2.cell 0).trans HL0.out
  go_wp2_with fail
  refine (wraw_any base p T v2 _ (some ⟨w.heap.size, 11, none⟩) 8 8 (cidL ⟨27, s, o, fin, l, c, f, q, y, c0, c1, c2, c3, c4, c5, c6, c7⟩) _ hx2.1 (by simp only [List.length_append, List.length_cons, List.length_nil]; have z0 := putS_le kv; omega) (HCR.out _ hA2) (by omega)).mono ?_
  rintro e w3 hw3
  obtain ⟨v3, rfl, hx3, hk3⟩ := hx2.step hM hw3
  have hA3 := hA2.kept hk3 (hx2.apart hg hn0)
  have hm3 := hx3.2.2.2
  clear hw3 hk3 hx2 hA2
  go_wp2_with fail
  go_end0
  have hfin := hx3.post hM (.tuple #[])
  try simp only [List.append_assoc] at hfin
  have hEE := HE.out
  try simp only [List.append_assoc] at hEE
  rw [hEE]
  exact hfin
set_option maxRecDepth 100000 in
set_option maxHeartbeats 1000000 in
theorem write_28 (base p : Nat) (T : TypeId) (v : Value) (bs : List Int) (s o l c f q y c0 c1 c2 c3 c4 c5 c6 c7 : Int) (fin : Bool) (d r : Sl) (ds : List Int) (rs : RS) (w : World) (h : Wtr w base p T v bs) (hl : bs.length ≤ 100000000000)
    (hf : Fits w (fun b => ¬ WS p v b) ⟨28, s, o, fin, l, c, f, q, y, c0, c1, c2, c3, c4, c5, c6, c7⟩ d r ds rs) (hr : rightB ⟨28, s, o, fin, l, c, f, q, y, c0, c1, c2, c3, c4, c5, c6, c7⟩ ds rs = true) (hbase : base ≤ w.heap.size) :
    Calls Try.prog 32 #[.pointer (some ⟨p, 0, none⟩), frV ⟨28, s, o, fin, l, c, f, q, y, c0, c1, c2, c3, c4, c5, c6, c7⟩ d r] w (WPost (.tuple #[]) w base p T v (bs ++ oneS ⟨28, s, o, fin, l, c, f, q, y, c0, c1, c2, c3, c4, c5, c6, c7⟩ ds rs)) := by
  obtain ⟨hwf, hdt, hrg⟩ := hf
  have hwb := wkS_bd ⟨28, s, o, fin, l, c, f, q, y, c0, c1, c2, c3, c4, c5, c6, c7⟩ (show (0 : Int) ≤ 28 from by decide) (show (28 : Int) ≤ 30 from by decide)
  have hbd : (c ≤ 4611686018427387903 ∧ ds.length ≤ 512) := by
    simp [rightB, askN, nrB, smB, drB, FN.zero, knownB, askDs] at hr
    first | trivial | omega | exact ⟨by omega, hr.2⟩
  have hs0 := hwf.s0
  have ho0 := hwf.o0
  have hl0 := hwf.l0
  have hc0 := hwf.c0
  have hf0 := hwf.f0
  have hq0 := hwf.q0
  have hy0 := hwf.y0
  simp only at hs0 ho0 hl0 hc0 hf0 hq0 hy0
  have hcid : Byt (cidL ⟨28, s, o, fin, l, c, f, q, y, c0, c1, c2, c3, c4, c5, c6, c7⟩) := hwf.cid
  have hE : bs ++ oneS ⟨28, s, o, fin, l, c, f, q, y, c0, c1, c2, c3, c4, c5, c6, c7⟩ ds rs = bs ++ (putS (wkS ⟨28, s, o, fin, l, c, f, q, y, c0, c1, c2, c3, c4, c5, c6, c7⟩) ++ bodyS ⟨28, s, o, fin, l, c, f, q, y, c0, c1, c2, c3, c4, c5, c6, c7⟩ ds rs) := rfl
  have hbod : bodyS ⟨28, s, o, fin, l, c, f, q, y, c0, c1, c2, c3, c4, c5, c6, c7⟩ ds rs = putS c ++ textB ds := by
    simp [bodyS]
  rw [hbod] at hE
  have HE := Lib.hid hE
  clear hE hbod hr
  have hW := h
  have hB0 : Below w.heap.size w (w.alloc (.cells (frL ⟨28, s, o, fin, l, c, f, q, y, c0, c1, c2, c3, c4, c5, c6, c7⟩ d r).toArray 46)) := (Below.refl _ _).alloc (Nat.le_refl _) _
  have hA0 : At (w.alloc (.cells (frL ⟨28, s, o, fin, l, c, f, q, y, c0, c1, c2, c3, c4, c5, c6, c7⟩ d r).toArray 46)) w.heap.size 46 (frL ⟨28, s, o, fin, l, c, f, q, y, c0, c1, c2, c3, c4, c5, c6, c7⟩ d r) := At.new w _ _
  have hx0 := WSx.refl hW hB0
  have hM : w.heap.size ≤ (w.alloc (.cells (frL ⟨28, s, o, fin, l, c, f, q, y, c0, c1, c2, c3, c4, c5, c6, c7⟩ d r).toArray 46)).heap.size := hB0.size
  have hg : w.heap.size < (w.alloc (.cells (frL ⟨28, s, o, fin, l, c, f, q, y, c0, c1, c2, c3, c4, c5, c6, c7⟩ d r).toArray 46)).heap.size := hA0.lt
  have hn0 := hW.not_new (g := w.heap.size) (Nat.le_refl _)
  have hwk := wk_any ⟨28, s, o, fin, l, c, f, q, y, c0, c1, c2, c3, c4, c5, c6, c7⟩ d r
  obtain ⟨kv, hkv⟩ : ∃ x, wkS ⟨28, s, o, fin, l, c, f, q, y, c0, c1, c2, c3, c4, c5, c6, c7⟩ = x := ⟨_, rfl⟩
  rw [hkv] at hwb hwk HE
  clear hkv
  have HWK := Lib.hid (fun W => hwk W (show (0 : Int) ≤ 28 from by decide) (show (28 : Int) ≤ 30 from by decide) ho0)
  clear hwk
  have HWF := Lib.hid hwf
  have HDT := Lib.hid hdt
  have HRG := Lib.hid hrg
  have HCID := Lib.hid hcid
  clear hwf hdt hrg hcid
  obtain ⟨L, hL⟩ : ∃ L, frL ⟨28, s, o, fin, l, c, f, q, y, c0, c1, c2, c3, c4, c5, c6, c7⟩ d r = L := ⟨_, rfl⟩
  have hLl : L.length = 19 := by rw [← hL]; rfl
  have hfv : frV ⟨28, s, o, fin, l, c, f, q, y, c0, c1, c2, c3, c4, c5, c6, c7⟩ d r = .agg L.toArray := by rw [← hL]; rfl
  have hl_0 : L[0]? = some (.int .i64 28) := by rw [← hL]; rfl
  have hl_3 : L[3]? = some (.slice d.A d.n d.c) := by rw [← hL]; rfl
  have hl_6 : L[6]? = some (.int .u64 c) := by rw [← hL]; rfl
  rw [hL] at hA0 hB0 hx0 hM hg
  rw [hfv] at HWK ⊢
  clear hL hfv
  have HL0 := Lib.hid hl_0
  clear hl_0
  have HL3 := Lib.hid hl_3
  clear hl_3
  have HL6 := Lib.hid hl_6
  clear hl_6
  have HLl := Lib.hid hLl
  clear hLl
  obtain ⟨dA, dn, dc⟩ := d
  obtain ⟨M, hMM⟩ : ∃ M, (w.alloc (.cells L.toArray 46)).heap.size = M := ⟨_, rfl⟩
  rw [hMM] at hx0 hM hg
  have HMM := Lib.hid hMM
  clear hMM
  have hdc := HDT.out.cm
  have hdl := HDT.out.lc
  have hdn := HDT.out.rd.len
  simp only at hdc hdl hdn
  unfold maxLen at hdc
  have hdn' : dn ≤ 512 := by omega
  have HDN := Lib.hid hdn
  clear hdn
  go_enter Try.func32, Try.ntmps32
  go_wp2_with (first | ((with_reducible refine at_ld ?_); refine ld_fr_g _ _ (by rfl) (by rfl) hA0 HLl.out ?_) | fail)
  refine (HWK.out _).mono ?_
  rintro e w1 ⟨rfl, hb1⟩
  have hA1 := hA0.below hb1 (by rw [HMM.out]; exact hg)
  have hx1 := hx0.below hb1
  clear hA0 hx0 hb1
  have hm1 := hx1.2.2.2
  go_wp2_with fail
  refine (wvar_yes base p T v bs kv _ hx1.1 (by omega) hwb.1 (by omega) (by omega)).mono ?_
  rintro e w2 hw2
  obtain ⟨v2, rfl, hx2, hk2⟩ := hx1.step hM hw2
  have hA2 := hA1.kept hk2 (hx1.apart hg hn0)
  have hm2 := hx2.2.2.2
  clear hw2 hk2 hx1 hA1
  have e0 := (hA2.cell 0).trans HL0.out
  have f6 := (hA2.cell 6).trans HL6.out
  go_wp2_with fail
  refine (wvar_yes base p T v2 _ c _ hx2.1 (by simp only [List.length_append, List.length_cons, List.length_nil]; have z0 := putS_le kv; omega) hc0 (by omega) (by omega)).mono ?_
  rintro e w3 hw3
  obtain ⟨v3, rfl, hx3, hk3⟩ := hx2.step hM hw3
  have hA3 := hA2.kept hk3 (hx2.apart hg hn0)
  have hm3 := hx3.2.2.2
  clear hw3 hk3 hx2 hA2
  clear f6
  have f3 := (hA3.cell 3).trans HL3.out
  go_wp2_with fail
  have hrw := hx3.row hM HDT.out
  refine (wtext_any base p T v3 _ dA dn dc ds _ hx3.1 (by simp only [List.length_append, List.length_cons, List.length_nil]; have z0 := putS_le kv; have z1 := putS_le c; omega) (by omega) hrw.1 hrw.2 (by omega)).mono ?_
  rintro e w4 hw4
  obtain ⟨v4, rfl, hx4, hk4⟩ := hx3.step hM hw4
  have hA4 := hA3.kept hk4 (hx3.apart hg hn0)
  have hm4 := hx4.2.2.2
  clear hw4 hk4 hx3 hA3
  clear f3
  go_wp2_with fail
  go_end0
  have hfin := hx4.post hM (.tuple #[])
  try simp only [List.append_assoc] at hfin
  have hEE := HE.out
  try simp only [List.append_assoc] at hEE
  rw [hEE]
  exact hfin
theorem write_any (base p : Nat) (T : TypeId) (v : Value) (bs : List Int) (m : FN) (d r : Sl) (ds : List Int) (rs : RS) (w : World) (h : Wtr w base p T v bs) (hl : bs.length ≤ 100000000000)
    (hf : Fits w (fun b => ¬ WS p v b) m d r ds rs) (hr : rightB m ds rs = true) (hbase : base ≤ w.heap.size) :
    Calls Try.prog 32 #[.pointer (some ⟨p, 0, none⟩), frV m d r] w (WPost (.tuple #[]) w base p T v (bs ++ oneS m ds rs)) := by
  obtain ⟨k, s, o, fin, l, c, f, q, y, c0, c1, c2, c3, c4, c5, c6, c7⟩ := m
  rcases kind_cases k with rfl | rfl | rfl | rfl | rfl | rfl | rfl | rfl | rfl | rfl | rfl | rfl | rfl | rfl | rfl | rfl | rfl | hk
  · exact write_0 base p T v bs s o l c f q y c0 c1 c2 c3 c4 c5 c6 c7 fin d r ds rs w h hl hf hr hbase
  · exact write_1 base p T v bs s o l c f q y c0 c1 c2 c3 c4 c5 c6 c7 fin d r ds rs w h hl hf hr hbase
  · exact write_30 base p T v bs s o l c f q y c0 c1 c2 c3 c4 c5 c6 c7 fin d r ds rs w h hl hf hr hbase
  · exact write_2 base p T v bs s o l c f q y c0 c1 c2 c3 c4 c5 c6 c7 fin d r ds rs w h hl hf hr hbase
  · exact write_4 base p T v bs s o l c f q y c0 c1 c2 c3 c4 c5 c6 c7 fin d r ds rs w h hl hf hr hbase
  · exact write_5 base p T v bs s o l c f q y c0 c1 c2 c3 c4 c5 c6 c7 fin d r ds rs w h hl hf hr hbase
  · exact write_6 base p T v bs s o l c f q y c0 c1 c2 c3 c4 c5 c6 c7 fin d r ds rs w h hl hf hr hbase
  · rcases Int.lt_or_le 0 o with ho | ho
    · exact write_8p base p T v bs s o l c f q y c0 c1 c2 c3 c4 c5 c6 c7 fin d r ds rs w h hl hf hr ho hbase
    · exact write_8z base p T v bs s o l c f q y c0 c1 c2 c3 c4 c5 c6 c7 fin d r ds rs w h hl hf hr ho hbase
  · exact write_16 base p T v bs s o l c f q y c0 c1 c2 c3 c4 c5 c6 c7 fin d r ds rs w h hl hf hr hbase
  · exact write_18 base p T v bs s o l c f q y c0 c1 c2 c3 c4 c5 c6 c7 fin d r ds rs w h hl hf hr hbase
  · exact write_20 base p T v bs s o l c f q y c0 c1 c2 c3 c4 c5 c6 c7 fin d r ds rs w h hl hf hr hbase
  · exact write_17 base p T v bs s o l c f q y c0 c1 c2 c3 c4 c5 c6 c7 fin d r ds rs w h hl hf hr hbase
  · exact write_24 base p T v bs s o l c f q y c0 c1 c2 c3 c4 c5 c6 c7 fin d r ds rs w h hl hf hr hbase
  · exact write_25 base p T v bs s o l c f q y c0 c1 c2 c3 c4 c5 c6 c7 fin d r ds rs w h hl hf hr hbase
  · exact write_26 base p T v bs s o l c f q y c0 c1 c2 c3 c4 c5 c6 c7 fin d r ds rs w h hl hf hr hbase
  · exact write_27 base p T v bs s o l c f q y c0 c1 c2 c3 c4 c5 c6 c7 fin d r ds rs w h hl hf hr hbase
  · exact write_28 base p T v bs s o l c f q y c0 c1 c2 c3 c4 c5 c6 c7 fin d r ds rs w h hl hf hr hbase
  · exfalso
    obtain ⟨e0, e1, e30, e2, e4, e5, e6, e8, e16, e18, e20, e17, e24, e25, e26, e27, e28⟩ := hk
    simp [rightB, knownB, e0, e1, e30, e2, e4, e5, e6, e8, e16, e18, e20, e17, e24, e25, e26, e27, e28] at hr
end Go.Proofs.Ytahalbmcijbbmaa
