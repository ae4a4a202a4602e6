/-
  A frame that is right, as bytes (frame.write).
-/
import Derived.Test.YtbejpafephofaaaGreatWack
namespace Go.Proofs.YtbejpafephofaaaGreat
set_option linter.unusedVariables false
set_option linter.unusedSimpArgs false
open Go.RowKit
def cidL (m : FN) : List Int := [m.c0, m.c1, m.c2, m.c3, m.c4, m.c5, m.c6, m.c7]
def bodyS (m : FN) (ds : List Int) (rs : RS) : List Int :=
  if m.k = 2 then putL (ackV m.y rs)
  else if m.k = 4 then putL [m.s, m.c, m.f]
  else if m.k = 5 then putL [m.s, m.c]
  else if m.k = 6 then putS m.o ++ textB ds
  else if m.k = 8 then (if 0 < m.o then putS m.s ++ putS m.o else putS m.s) ++ textB ds
  else if m.k = 16 then putS m.l
  else if m.k = 18 then putS m.l
  else if m.k = 20 then putS m.l
  else if m.k = 17 then putL [m.s, m.l]
  else if m.k = 24 then putL [m.q, m.l] ++ [8] ++ cidL m
  else if m.k = 25 then putS m.q
  else if m.k = 26 then cidL m
  else if m.k = 27 then cidL m
  else if m.k = 28 then putS m.c ++ textB ds
  else []
/-- A frame's bytes. -/
def oneS (m : FN) (ds : List Int) (rs : RS) : List Int := putS (wkS m) ++ bodyS m ds rs
theorem wkS_bd (m : FN) (h0 : 0 ≤ m.k) (h1 : m.k ≤ 30) : 0 ≤ wkS m ∧ wkS m ≤ 30 := by
  unfold wkS; (repeat' split) <;> omega
set_option maxRecDepth 100000 in
set_option maxHeartbeats 1000000 in
theorem write_0 (base p : Nat) (T : TypeId) (v : Value) (bs : List Int) (s o l c f q y c0 c1 c2 c3 c4 c5 c6 c7 : Int) (fin : Bool) (d r : Sl) (ds : List Int) (rs : RS) (w : World) (h : Wtr w base p T v bs) (hl : bs.length ≤ 100000000000)
    (hf : Fits w (fun b => ¬ WS p v b) ⟨0, s, o, fin, l, c, f, q, y, c0, c1, c2, c3, c4, c5, c6, c7⟩ d r ds rs) (hr : rightB ⟨0, s, o, fin, l, c, f, q, y, c0, c1, c2, c3, c4, c5, c6, c7⟩ ds rs = true) (hbase : base ≤ w.heap.size) :
    Calls Tryz.prog 75 #[.pointer (some ⟨p, 0, none⟩), frV ⟨0, s, o, fin, l, c, f, q, y, c0, c1, c2, c3, c4, c5, c6, c7⟩ d r] w (WPost (.tuple #[]) w base p T v (bs ++ oneS ⟨0, s, o, fin, l, c, f, q, y, c0, c1, c2, c3, c4, c5, c6, c7⟩ ds rs)) := by
  obtain ⟨hwf, hdt, hrg⟩ := hf
  have hwb := wkS_bd ⟨0, s, o, fin, l, c, f, q, y, c0, c1, c2, c3, c4, c5, c6, c7⟩ (show (0 : Int) ≤ 0 from by decide) (show (0 : Int) ≤ 30 from by decide)
  have hbd : (True) := by
    simp [rightB, askN, nrB, smB, drB, FN.zero, knownB, askDs] at hr
    first | trivial | omega | exact ⟨by omega, hr.2⟩
  have hs0 := hwf.s0
  have ho0 := hwf.o0
  have hl0 := hwf.l0
  have hc0 := hwf.c0
  have hf0 := hwf.f0
  have hq0 := hwf.q0
  have hy0 := hwf.y0
  simp only at hs0 ho0 hl0 hc0 hf0 hq0 hy0
  have hcid : Byt (cidL ⟨0, s, o, fin, l, c, f, q, y, c0, c1, c2, c3, c4, c5, c6, c7⟩) := hwf.cid
  have hE : bs ++ oneS ⟨0, s, o, fin, l, c, f, q, y, c0, c1, c2, c3, c4, c5, c6, c7⟩ ds rs = bs ++ (putS (wkS ⟨0, s, o, fin, l, c, f, q, y, c0, c1, c2, c3, c4, c5, c6, c7⟩) ++ bodyS ⟨0, s, o, fin, l, c, f, q, y, c0, c1, c2, c3, c4, c5, c6, c7⟩ ds rs) := rfl
  have hbod : bodyS ⟨0, s, o, fin, l, c, f, q, y, c0, c1, c2, c3, c4, c5, c6, c7⟩ ds rs = [] := by
    simp [bodyS]
  rw [hbod] at hE
  have HE := Lib.hid hE
  clear hE hbod hr
  have hW := h
  have hB0 : Below w.heap.size w (w.alloc (.cells (frL ⟨0, s, o, fin, l, c, f, q, y, c0, c1, c2, c3, c4, c5, c6, c7⟩ d r).toArray 51)) := (Below.refl _ _).alloc (Nat.le_refl _) _
  have hA0 : At (w.alloc (.cells (frL ⟨0, s, o, fin, l, c, f, q, y, c0, c1, c2, c3, c4, c5, c6, c7⟩ d r).toArray 51)) w.heap.size 51 (frL ⟨0, s, o, fin, l, c, f, q, y, c0, c1, c2, c3, c4, c5, c6, c7⟩ d r) := At.new w _ _
  have hx0 := WSx.refl hW hB0
  have hM : w.heap.size ≤ (w.alloc (.cells (frL ⟨0, s, o, fin, l, c, f, q, y, c0, c1, c2, c3, c4, c5, c6, c7⟩ d r).toArray 51)).heap.size := hB0.size
  have hg : w.heap.size < (w.alloc (.cells (frL ⟨0, s, o, fin, l, c, f, q, y, c0, c1, c2, c3, c4, c5, c6, c7⟩ d r).toArray 51)).heap.size := hA0.lt
  have hn0 := hW.not_new (g := w.heap.size) (Nat.le_refl _)
  have hwk := wk_any ⟨0, s, o, fin, l, c, f, q, y, c0, c1, c2, c3, c4, c5, c6, c7⟩ d r
  obtain ⟨kv, hkv⟩ : ∃ x, wkS ⟨0, s, o, fin, l, c, f, q, y, c0, c1, c2, c3, c4, c5, c6, c7⟩ = x := ⟨_, rfl⟩
  rw [hkv] at hwb hwk HE
  clear hkv
  have HWK := Lib.hid (fun W => hwk W (show (0 : Int) ≤ 0 from by decide) (show (0 : Int) ≤ 30 from by decide) ho0)
  clear hwk
  have HWF := Lib.hid hwf
  have HDT := Lib.hid hdt
  have HRG := Lib.hid hrg
  have HCID := Lib.hid hcid
  clear hwf hdt hrg hcid
  obtain ⟨L, hL⟩ : ∃ L, frL ⟨0, s, o, fin, l, c, f, q, y, c0, c1, c2, c3, c4, c5, c6, c7⟩ d r = L := ⟨_, rfl⟩
  have hLl : L.length = 19 := by rw [← hL]; rfl
  have hfv : frV ⟨0, s, o, fin, l, c, f, q, y, c0, c1, c2, c3, c4, c5, c6, c7⟩ d r = .agg L.toArray := by rw [← hL]; rfl
  have hl_0 : L[0]? = some (.int .i64 0) := by rw [← hL]; rfl
  rw [hL] at hA0 hB0 hx0 hM hg
  rw [hfv] at HWK ⊢
  clear hL hfv
  have HL0 := Lib.hid hl_0
  clear hl_0
  have HLl := Lib.hid hLl
  clear hLl
  obtain ⟨dA, dn, dc⟩ := d
  obtain ⟨M, hMM⟩ : ∃ M, (w.alloc (.cells L.toArray 51)).heap.size = M := ⟨_, rfl⟩
  rw [hMM] at hx0 hM hg
  have HMM := Lib.hid hMM
  clear hMM
  go_enter Tryz.func75, Tryz.ntmps75
  go_wp2_with (first | ((with_reducible refine at_ld ?_); refine ld_fr_g _ _ (by rfl) (by rfl) hA0 HLl.out ?_) | fail)
  refine (HWK.out _).mono ?_
  rintro e w1 ⟨rfl, hb1⟩
  have hA1 := hA0.below hb1 (by rw [HMM.out]; exact hg)
  have hx1 := hx0.below hb1
  clear hA0 hx0 hb1
  have hm1 := hx1.2.2.2
  go_wp2_with fail
  refine (wvar_yes base p T v bs kv _ hx1.1 (by omega) hwb.1 (by omega) (by omega)).mono ?_
  rintro e w2 hw2
  obtain ⟨v2, rfl, hx2, hk2⟩ := hx1.step hM hw2
  have hA2 := hA1.kept hk2 (hx1.apart hg hn0)
  have hm2 := hx2.2.2.2
  clear hw2 hk2 hx1 hA1
  have e0 := (hA2.cell 0).trans HL0.out
  go_wp2_with fail
  go_end0
  have hfin := hx2.post hM (.tuple #[])
  try simp only [List.append_assoc] at hfin
  have hEE := HE.out
  try simp only [List.append_assoc] at hEE
  rw [hEE]
  simpa using hfin
set_option maxRecDepth 100000 in
set_option maxHeartbeats 1000000 in
theorem write_4 (base p : Nat) (T : TypeId) (v : Value) (bs : List Int) (s o l c f q y c0 c1 c2 c3 c4 c5 c6 c7 : Int) (fin : Bool) (d r : Sl) (ds : List Int) (rs : RS) (w : World) (h : Wtr w base p T v bs) (hl : bs.length ≤ 100000000000)
    (hf : Fits w (fun b => ¬ WS p v b) ⟨4, s, o, fin, l, c, f, q, y, c0, c1, c2, c3, c4, c5, c6, c7⟩ d r ds rs) (hr : rightB ⟨4, s, o, fin, l, c, f, q, y, c0, c1, c2, c3, c4, c5, c6, c7⟩ ds rs = true) (hbase : base ≤ w.heap.size) :
    Calls Tryz.prog 75 #[.pointer (some ⟨p, 0, none⟩), frV ⟨4, s, o, fin, l, c, f, q, y, c0, c1, c2, c3, c4, c5, c6, c7⟩ d r] w (WPost (.tuple #[]) w base p T v (bs ++ oneS ⟨4, s, o, fin, l, c, f, q, y, c0, c1, c2, c3, c4, c5, c6, c7⟩ ds rs)) := by
  obtain ⟨hwf, hdt, hrg⟩ := hf
  have hwb := wkS_bd ⟨4, s, o, fin, l, c, f, q, y, c0, c1, c2, c3, c4, c5, c6, c7⟩ (show (0 : Int) ≤ 4 from by decide) (show (4 : Int) ≤ 30 from by decide)
  have hbd : (s ≤ 4611686018427387903 ∧ c ≤ 4611686018427387903 ∧ f ≤ 4611686018427387903) := by
    simp [rightB, askN, nrB, smB, drB, FN.zero, knownB, askDs] at hr
    first | trivial | omega | exact ⟨by omega, hr.2⟩
  have hs0 := hwf.s0
  have ho0 := hwf.o0
  have hl0 := hwf.l0
  have hc0 := hwf.c0
  have hf0 := hwf.f0
  have hq0 := hwf.q0
  have hy0 := hwf.y0
  simp only at hs0 ho0 hl0 hc0 hf0 hq0 hy0
  have hcid : Byt (cidL ⟨4, s, o, fin, l, c, f, q, y, c0, c1, c2, c3, c4, c5, c6, c7⟩) := hwf.cid
  have hE : bs ++ oneS ⟨4, s, o, fin, l, c, f, q, y, c0, c1, c2, c3, c4, c5, c6, c7⟩ ds rs = bs ++ (putS (wkS ⟨4, s, o, fin, l, c, f, q, y, c0, c1, c2, c3, c4, c5, c6, c7⟩) ++ bodyS ⟨4, s, o, fin, l, c, f, q, y, c0, c1, c2, c3, c4, c5, c6, c7⟩ ds rs) := rfl
  have hbod : bodyS ⟨4, s, o, fin, l, c, f, q, y, c0, c1, c2, c3, c4, c5, c6, c7⟩ ds rs = putL [s, c, f] := by
    simp [bodyS]
  rw [hbod] at hE
  have HE := Lib.hid hE
  clear hE hbod hr
  have hW := h
  have hB0 : Below w.heap.size w (w.alloc (.cells (frL ⟨4, s, o, fin, l, c, f, q, y, c0, c1, c2, c3, c4, c5, c6, c7⟩ d r).toArray 51)) := (Below.refl _ _).alloc (Nat.le_refl _) _
  have hA0 : At (w.alloc (.cells (frL ⟨4, s, o, fin, l, c, f, q, y, c0, c1, c2, c3, c4, c5, c6, c7⟩ d r).toArray 51)) w.heap.size 51 (frL ⟨4, s, o, fin, l, c, f, q, y, c0, c1, c2, c3, c4, c5, c6, c7⟩ d r) := At.new w _ _
  have hx0 := WSx.refl hW hB0
  have hM : w.heap.size ≤ (w.alloc (.cells (frL ⟨4, s, o, fin, l, c, f, q, y, c0, c1, c2, c3, c4, c5, c6, c7⟩ d r).toArray 51)).heap.size := hB0.size
  have hg : w.heap.size < (w.alloc (.cells (frL ⟨4, s, o, fin, l, c, f, q, y, c0, c1, c2, c3, c4, c5, c6, c7⟩ d r).toArray 51)).heap.size := hA0.lt
  have hn0 := hW.not_new (g := w.heap.size) (Nat.le_refl _)
  have hwk := wk_any ⟨4, s, o, fin, l, c, f, q, y, c0, c1, c2, c3, c4, c5, c6, c7⟩ d r
  obtain ⟨kv, hkv⟩ : ∃ x, wkS ⟨4, s, o, fin, l, c, f, q, y, c0, c1, c2, c3, c4, c5, c6, c7⟩ = x := ⟨_, rfl⟩
  rw [hkv] at hwb hwk HE
  clear hkv
  have HWK := Lib.hid (fun W => hwk W (show (0 : Int) ≤ 4 from by decide) (show (4 : Int) ≤ 30 from by decide) ho0)
  clear hwk
  have HWF := Lib.hid hwf
  have HDT := Lib.hid hdt
  have HRG := Lib.hid hrg
  have HCID := Lib.hid hcid
  clear hwf hdt hrg hcid
  obtain ⟨L, hL⟩ : ∃ L, frL ⟨4, s, o, fin, l, c, f, q, y, c0, c1, c2, c3, c4, c5, c6, c7⟩ d r = L := ⟨_, rfl⟩
  have hLl : L.length = 19 := by rw [← hL]; rfl
  have hfv : frV ⟨4, s, o, fin, l, c, f, q, y, c0, c1, c2, c3, c4, c5, c6, c7⟩ d r = .agg L.toArray := by rw [← hL]; rfl
  have hl_0 : L[0]? = some (.int .i64 4) := by rw [← hL]; rfl
  have hl_1 : L[1]? = some (.int .u64 s) := by rw [← hL]; rfl
  have hl_6 : L[6]? = some (.int .u64 c) := by rw [← hL]; rfl
  have hl_7 : L[7]? = some (.int .u64 f) := by rw [← hL]; rfl
  rw [hL] at hA0 hB0 hx0 hM hg
  rw [hfv] at HWK ⊢
  clear hL hfv
  have HL0 := Lib.hid hl_0
  clear hl_0
  have HL1 := Lib.hid hl_1
  clear hl_1
  have HL6 := Lib.hid hl_6
  clear hl_6
  have HL7 := Lib.hid hl_7
  clear hl_7
  have HLl := Lib.hid hLl
  clear hLl
  obtain ⟨dA, dn, dc⟩ := d
  obtain ⟨M, hMM⟩ : ∃ M, (w.alloc (.cells L.toArray 51)).heap.size = M := ⟨_, rfl⟩
  rw [hMM] at hx0 hM hg
  have HMM := Lib.hid hMM
  clear hMM
  go_enter Tryz.func75, Tryz.ntmps75
  go_wp2_with (first | ((with_reducible refine at_ld ?_); refine ld_fr_g _ _ (by rfl) (by rfl) hA0 HLl.out ?_) | fail)
  refine (HWK.out _).mono ?_
  rintro e w1 ⟨rfl, hb1⟩
  have hA1 := hA0.below hb1 (by rw [HMM.out]; exact hg)
  have hx1 := hx0.below hb1
  clear hA0 hx0 hb1
  have hm1 := hx1.2.2.2
  go_wp2_with fail
  refine (wvar_yes base p T v bs kv _ hx1.1 (by omega) hwb.1 (by omega) (by omega)).mono ?_
  rintro e w2 hw2
  obtain ⟨v2, rfl, hx2, hk2⟩ := hx1.step hM hw2
  have hA2 := hA1.kept hk2 (hx1.apart hg hn0)
  have hm2 := hx2.2.2.2
  clear hw2 hk2 hx1 hA1
  have e0 := (hA2.cell 0).trans HL0.out
  have f1 := (hA2.cell 1).trans HL1.out
  have f6 := (hA2.cell 6).trans HL6.out
  have f7 := (hA2.cell 7).trans HL7.out
  go_wp2_with fail
  have hU := UsP.new w2 (fun b => ¬ WS p v2 b) 26 [s, c, f] (by intro x hx; simp at hx; omega) _ rfl w2.heap.size rfl (hx2.1.not_new (Nat.le_refl _))
  have hxa := hx2.alloc (.cells #[.int .u64 s, .int .u64 c, .int .u64 f] 26)
  have hAa := hA2.alloc (.cells #[.int .u64 s, .int .u64 c, .int .u64 f] 26)
  refine (wvars_any base p T v2 _ [s, c, f] _ 3 3 _ hxa.1 (by simp only [List.length_append, List.length_cons, List.length_nil]; have z0 := putS_le kv; omega) (by omega) (by omega) hU (by intro x hx; simp at hx; omega) (by have := hxa.2.2.2; omega)).mono ?_
  rintro e w3 hw3
  obtain ⟨v3, rfl, hx3, hk3⟩ := hxa.step hM hw3
  have hA3 := hAa.kept hk3 (hxa.apart hg hn0)
  have hm3 := hx3.2.2.2
  clear hw3 hk3 hx2 hA2 hxa hAa hU
  clear f1 f6 f7
  go_wp2_with fail
  go_end0
  have hfin := hx3.post hM (.tuple #[])
  try simp only [List.append_assoc] at hfin
  have hEE := HE.out
  try simp only [List.append_assoc] at hEE
  rw [hEE]
  exact hfin
set_option maxRecDepth 100000 in
set_option maxHeartbeats 1000000 in
theorem write_8p (base p : Nat) (T : TypeId) (v : Value) (bs : List Int) (s o l c f q y c0 c1 c2 c3 c4 c5 c6 c7 : Int) (fin : Bool) (d r : Sl) (ds : List Int) (rs : RS) (w : World) (h : Wtr w base p T v bs) (hl : bs.length ≤ 100000000000)
    (hf : Fits w (fun b => ¬ WS p v b) ⟨8, s, o, fin, l, c, f, q, y, c0, c1, c2, c3, c4, c5, c6, c7⟩ d r ds rs) (hr : rightB ⟨8, s, o, fin, l, c, f, q, y, c0, c1, c2, c3, c4, c5, c6, c7⟩ ds rs = true) (hof : 0 < o) (hbase : base ≤ w.heap.size) :
    Calls Tryz.prog 75 #[.pointer (some ⟨p, 0, none⟩), frV ⟨8, s, o, fin, l, c, f, q, y, c0, c1, c2, c3, c4, c5, c6, c7⟩ d r] w (WPost (.tuple #[]) w base p T v (bs ++ oneS ⟨8, s, o, fin, l, c, f, q, y, c0, c1, c2, c3, c4, c5, c6, c7⟩ ds rs)) := by
  obtain ⟨hwf, hdt, hrg⟩ := hf
  have hwb := wkS_bd ⟨8, s, o, fin, l, c, f, q, y, c0, c1, c2, c3, c4, c5, c6, c7⟩ (show (0 : Int) ≤ 8 from by decide) (show (8 : Int) ≤ 30 from by decide)
  have hbd : (s ≤ 4611686018427387903 ∧ o ≤ 4611686018427387903 ∧ ds.length ≤ 512) := by
    simp [rightB, askN, nrB, smB, drB, FN.zero, knownB, askDs] at hr
    first | trivial | omega | exact ⟨by omega, hr.2⟩
  have hs0 := hwf.s0
  have ho0 := hwf.o0
  have hl0 := hwf.l0
  have hc0 := hwf.c0
  have hf0 := hwf.f0
  have hq0 := hwf.q0
  have hy0 := hwf.y0
  simp only at hs0 ho0 hl0 hc0 hf0 hq0 hy0
  have hcid : Byt (cidL ⟨8, s, o, fin, l, c, f, q, y, c0, c1, c2, c3, c4, c5, c6, c7⟩) := hwf.cid
  have hE : bs ++ oneS ⟨8, s, o, fin, l, c, f, q, y, c0, c1, c2, c3, c4, c5, c6, c7⟩ ds rs = bs ++ (putS (wkS ⟨8, s, o, fin, l, c, f, q, y, c0, c1, c2, c3, c4, c5, c6, c7⟩) ++ bodyS ⟨8, s, o, fin, l, c, f, q, y, c0, c1, c2, c3, c4, c5, c6, c7⟩ ds rs) := rfl
  have hbod : bodyS ⟨8, s, o, fin, l, c, f, q, y, c0, c1, c2, c3, c4, c5, c6, c7⟩ ds rs = putS s ++ putS o ++ textB ds := by
    simp [bodyS, hof]
  rw [hbod] at hE
  have HE := Lib.hid hE
  clear hE hbod hr
  have hof' : decide (0 < o) = true := by simpa using hof
  have hW := h
  have hB0 : Below w.heap.size w (w.alloc (.cells (frL ⟨8, s, o, fin, l, c, f, q, y, c0, c1, c2, c3, c4, c5, c6, c7⟩ d r).toArray 51)) := (Below.refl _ _).alloc (Nat.le_refl _) _
  have hA0 : At (w.alloc (.cells (frL ⟨8, s, o, fin, l, c, f, q, y, c0, c1, c2, c3, c4, c5, c6, c7⟩ d r).toArray 51)) w.heap.size 51 (frL ⟨8, s, o, fin, l, c, f, q, y, c0, c1, c2, c3, c4, c5, c6, c7⟩ d r) := At.new w _ _
  have hx0 := WSx.refl hW hB0
  have hM : w.heap.size ≤ (w.alloc (.cells (frL ⟨8, s, o, fin, l, c, f, q, y, c0, c1, c2, c3, c4, c5, c6, c7⟩ d r).toArray 51)).heap.size := hB0.size
  have hg : w.heap.size < (w.alloc (.cells (frL ⟨8, s, o, fin, l, c, f, q, y, c0, c1, c2, c3, c4, c5, c6, c7⟩ d r).toArray 51)).heap.size := hA0.lt
  have hn0 := hW.not_new (g := w.heap.size) (Nat.le_refl _)
  have hwk := wk_any ⟨8, s, o, fin, l, c, f, q, y, c0, c1, c2, c3, c4, c5, c6, c7⟩ d r
  obtain ⟨kv, hkv⟩ : ∃ x, wkS ⟨8, s, o, fin, l, c, f, q, y, c0, c1, c2, c3, c4, c5, c6, c7⟩ = x := ⟨_, rfl⟩
  rw [hkv] at hwb hwk HE
  clear hkv
  have HWK := Lib.hid (fun W => hwk W (show (0 : Int) ≤ 8 from by decide) (show (8 : Int) ≤ 30 from by decide) ho0)
  clear hwk
  have HWF := Lib.hid hwf
  have HDT := Lib.hid hdt
  have HRG := Lib.hid hrg
  have HCID := Lib.hid hcid
  clear hwf hdt hrg hcid
  obtain ⟨L, hL⟩ : ∃ L, frL ⟨8, s, o, fin, l, c, f, q, y, c0, c1, c2, c3, c4, c5, c6, c7⟩ d r = L := ⟨_, rfl⟩
  have hLl : L.length = 19 := by rw [← hL]; rfl
  have hfv : frV ⟨8, s, o, fin, l, c, f, q, y, c0, c1, c2, c3, c4, c5, c6, c7⟩ d r = .agg L.toArray := by rw [← hL]; rfl
  have hl_0 : L[0]? = some (.int .i64 8) := by rw [← hL]; rfl
  have hl_1 : L[1]? = some (.int .u64 s) := by rw [← hL]; rfl
  have hl_2 : L[2]? = some (.int .u64 o) := by rw [← hL]; rfl
  have hl_3 : L[3]? = some (.slice d.A d.n d.c) := by rw [← hL]; rfl
  rw [hL] at hA0 hB0 hx0 hM hg
  rw [hfv] at HWK ⊢
  clear hL hfv
  have HL0 := Lib.hid hl_0
  clear hl_0
  have HL1 := Lib.hid hl_1
  clear hl_1
  have HL2 := Lib.hid hl_2
  clear hl_2
  have HL3 := Lib.hid hl_3
  clear hl_3
  have HLl := Lib.hid hLl
  clear hLl
  obtain ⟨dA, dn, dc⟩ := d
  obtain ⟨M, hMM⟩ : ∃ M, (w.alloc (.cells L.toArray 51)).heap.size = M := ⟨_, rfl⟩
  rw [hMM] at hx0 hM hg
  have HMM := Lib.hid hMM
  clear hMM
  have hdc := HDT.out.cm
  have hdl := HDT.out.lc
  have hdn := HDT.out.rd.len
  simp only at hdc hdl hdn
  unfold maxLen at hdc
  have hdn' : dn ≤ 512 := by omega
  have HDN := Lib.hid hdn
  clear hdn
  go_enter Tryz.func75, Tryz.ntmps75
  go_wp2_with (first | ((with_reducible refine at_ld ?_); refine ld_fr_g _ _ (by rfl) (by rfl) hA0 HLl.out ?_) | fail)
  refine (HWK.out _).mono ?_
  rintro e w1 ⟨rfl, hb1⟩
  have hA1 := hA0.below hb1 (by rw [HMM.out]; exact hg)
  have hx1 := hx0.below hb1
  clear hA0 hx0 hb1
  have hm1 := hx1.2.2.2
  go_wp2_with fail
  refine (wvar_yes base p T v bs kv _ hx1.1 (by omega) hwb.1 (by omega) (by omega)).mono ?_
  rintro e w2 hw2
  obtain ⟨v2, rfl, hx2, hk2⟩ := hx1.step hM hw2
  have hA2 := hA1.kept hk2 (hx1.apart hg hn0)
  have hm2 := hx2.2.2.2
  clear hw2 hk2 hx1 hA1
  have e0 := (hA2.cell 0).trans HL0.out
  have f1 := (hA2.cell 1).trans HL1.out
  have f2 := (hA2.cell 2).trans HL2.out
  go_wp2_with fail
  refine (wvar_yes base p T v2 _ s _ hx2.1 (by simp only [List.length_append, List.length_cons, List.length_nil]; have z0 := putS_le kv; omega) hs0 (by omega) (by omega)).mono ?_
  rintro e w3 hw3
  obtain ⟨v3, rfl, hx3, hk3⟩ := hx2.step hM hw3
  have hA3 := hA2.kept hk3 (hx2.apart hg hn0)
  have hm3 := hx3.2.2.2
  clear hw3 hk3 hx2 hA2
  clear f1 f2
  have f2 := (hA3.cell 2).trans HL2.out
  go_wp2_with fail
  refine (wvar_yes base p T v3 _ o _ hx3.1 (by simp only [List.length_append, List.length_cons, List.length_nil]; have z0 := putS_le kv; have z1 := putS_le s; omega) ho0 (by omega) (by omega)).mono ?_
  rintro e w4 hw4
  obtain ⟨v4, rfl, hx4, hk4⟩ := hx3.step hM hw4
  have hA4 := hA3.kept hk4 (hx3.apart hg hn0)
  have hm4 := hx4.2.2.2
  clear hw4 hk4 hx3 hA3
  clear f2
  have f2 := (hA4.cell 2).trans HL2.out
  have f3 := (hA4.cell 3).trans HL3.out
  go_wp2_with fail
  have hrw := hx4.row hM HDT.out
  refine (wtext_any base p T v4 _ dA dn dc ds _ hx4.1 (by simp only [List.length_append, List.length_cons, List.length_nil]; have z0 := putS_le kv; have z1 := putS_le s; have z2 := putS_le o; omega) (by omega) hrw.1 hrw.2 (by omega)).mono ?_
  rintro e w5 hw5
  obtain ⟨v5, rfl, hx5, hk5⟩ := hx4.step hM hw5
  have hA5 := hA4.kept hk5 (hx4.apart hg hn0)
  have hm5 := hx5.2.2.2
  clear hw5 hk5 hx4 hA4
  clear f2 f3
  go_wp2_with fail
  go_end0
  have hfin := hx5.post hM (.tuple #[])
  try simp only [List.append_assoc] at hfin
  have hEE := HE.out
  try simp only [List.append_assoc] at hEE
  rw [hEE]
  exact hfin
set_option maxRecDepth 100000 in
set_option maxHeartbeats 1000000 in
theorem write_8z (base p : Nat) (T : TypeId) (v : Value) (bs : List Int) (s o l c f q y c0 c1 c2 c3 c4 c5 c6 c7 : Int) (fin : Bool) (d r : Sl) (ds : List Int) (rs : RS) (w : World) (h : Wtr w base p T v bs) (hl : bs.length ≤ 100000000000)
    (hf : Fits w (fun b => ¬ WS p v b) ⟨8, s, o, fin, l, c, f, q, y, c0, c1, c2, c3, c4, c5, c6, c7⟩ d r ds rs) (hr : rightB ⟨8, s, o, fin, l, c, f, q, y, c0, c1, c2, c3, c4, c5, c6, c7⟩ ds rs = true) (hof : o ≤ 0) (hbase : base ≤ w.heap.size) :
    Calls Tryz.prog 75 #[.pointer (some ⟨p, 0, none⟩), frV ⟨8, s, o, fin, l, c, f, q, y, c0, c1, c2, c3, c4, c5, c6, c7⟩ d r] w (WPost (.tuple #[]) w base p T v (bs ++ oneS ⟨8, s, o, fin, l, c, f, q, y, c0, c1, c2, c3, c4, c5, c6, c7⟩ ds rs)) := by
  obtain ⟨hwf, hdt, hrg⟩ := hf
  have hwb := wkS_bd ⟨8, s, o, fin, l, c, f, q, y, c0, c1, c2, c3, c4, c5, c6, c7⟩ (show (0 : Int) ≤ 8 from by decide) (show (8 : Int) ≤ 30 from by decide)
  have hbd : (s ≤ 4611686018427387903 ∧ o ≤ 4611686018427387903 ∧ ds.length ≤ 512) := by
    simp [rightB, askN, nrB, smB, drB, FN.zero, knownB, askDs] at hr
    first | trivial | omega | exact ⟨by omega, hr.2⟩
  have hs0 := hwf.s0
  have ho0 := hwf.o0
  have hl0 := hwf.l0
  have hc0 := hwf.c0
  have hf0 := hwf.f0
  have hq0 := hwf.q0
  have hy0 := hwf.y0
  simp only at hs0 ho0 hl0 hc0 hf0 hq0 hy0
  have hcid : Byt (cidL ⟨8, s, o, fin, l, c, f, q, y, c0, c1, c2, c3, c4, c5, c6, c7⟩) := hwf.cid
  have hE : bs ++ oneS ⟨8, s, o, fin, l, c, f, q, y, c0, c1, c2, c3, c4, c5, c6, c7⟩ ds rs = bs ++ (putS (wkS ⟨8, s, o, fin, l, c, f, q, y, c0, c1, c2, c3, c4, c5, c6, c7⟩) ++ bodyS ⟨8, s, o, fin, l, c, f, q, y, c0, c1, c2, c3, c4, c5, c6, c7⟩ ds rs) := rfl
  have hbod : bodyS ⟨8, s, o, fin, l, c, f, q, y, c0, c1, c2, c3, c4, c5, c6, c7⟩ ds rs = putS s ++ textB ds := by
    simp [bodyS, show ¬ 0 < o by omega]
  rw [hbod] at hE
  have HE := Lib.hid hE
  clear hE hbod hr
  have hof' : decide (0 < o) = false := by simp; omega
  have hW := h
  have hB0 : Below w.heap.size w (w.alloc (.cells (frL ⟨8, s, o, fin, l, c, f, q, y, c0, c1, c2, c3, c4, c5, c6, c7⟩ d r).toArray 51)) := (Below.refl _ _).alloc (Nat.le_refl _) _
  have hA0 : At (w.alloc (.cells (frL ⟨8, s, o, fin, l, c, f, q, y, c0, c1, c2, c3, c4, c5, c6, c7⟩ d r).toArray 51)) w.heap.size 51 (frL ⟨8, s, o, fin, l, c, f, q, y, c0, c1, c2, c3, c4, c5, c6, c7⟩ d r) := At.new w _ _
  have hx0 := WSx.refl hW hB0
  have hM : w.heap.size ≤ (w.alloc (.cells (frL ⟨8, s, o, fin, l, c, f, q, y, c0, c1, c2, c3, c4, c5, c6, c7⟩ d r).toArray 51)).heap.size := hB0.size
  have hg : w.heap.size < (w.alloc (.cells (frL ⟨8, s, o, fin, l, c, f, q, y, c0, c1, c2, c3, c4, c5, c6, c7⟩ d r).toArray 51)).heap.size := hA0.lt
  have hn0 := hW.not_new (g := w.heap.size) (Nat.le_refl _)
  have hwk := wk_any ⟨8, s, o, fin, l, c, f, q, y, c0, c1, c2, c3, c4, c5, c6, c7⟩ d r
  obtain ⟨kv, hkv⟩ : ∃ x, wkS ⟨8, s, o, fin, l, c, f, q, y, c0, c1, c2, c3, c4, c5, c6, c7⟩ = x := ⟨_, rfl⟩
  rw [hkv] at hwb hwk HE
  clear hkv
  have HWK := Lib.hid (fun W => hwk W (show (0 : Int) ≤ 8 from by decide) (show (8 : Int) ≤ 30 from by decide) ho0)
  clear hwk
  have HWF := Lib.hid hwf
  have HDT := Lib.hid hdt
  have HRG := Lib.hid hrg
  have HCID := Lib.hid hcid
  clear hwf hdt hrg hcid
  obtain ⟨L, hL⟩ : ∃ L, frL ⟨8, s, o, fin, l, c, f, q, y, c0, c1, c2, c3, c4, c5, c6, c7⟩ d r = L := ⟨_, rfl⟩
  have hLl : L.length = 19 := by rw [← hL]; rfl
  have hfv : frV ⟨8, s, o, fin, l, c, f, q, y, c0, c1, c2, c3, c4, c5, c6, c7⟩ d r = .agg L.toArray := by rw [← hL]; rfl
  have hl_0 : L[0]? = some (.int .i64 8) := by rw [← hL]; rfl
  have hl_1 : L[1]? = some (.int .u64 s) := by rw [← hL]; rfl
  have hl_2 : L[2]? = some (.int .u64 o) := by rw [← hL]; rfl
  have hl_3 : L[3]? = some (.slice d.A d.n d.c) := by rw [← hL]; rfl
  rw [hL] at hA0 hB0 hx0 hM hg
  rw [hfv] at HWK ⊢
  clear hL hfv
  have HL0 := Lib.hid hl_0
  clear hl_0
  have HL1 := Lib.hid hl_1
  clear hl_1
  have HL2 := Lib.hid hl_2
  clear hl_2
  have HL3 := Lib.hid hl_3
  clear hl_3
  have HLl := Lib.hid hLl
  clear hLl
  obtain ⟨dA, dn, dc⟩ := d
  obtain ⟨M, hMM⟩ : ∃ M, (w.alloc (.cells L.toArray 51)).heap.size = M := ⟨_, rfl⟩
  rw [hMM] at hx0 hM hg
  have HMM := Lib.hid hMM
  clear hMM
  have hdc := HDT.out.cm
  have hdl := HDT.out.lc
  have hdn := HDT.out.rd.len
  simp only at hdc hdl hdn
  unfold maxLen at hdc
  have hdn' : dn ≤ 512 := by omega
  have HDN := Lib.hid hdn
  clear hdn
  go_enter Tryz.func75, Tryz.ntmps75
  go_wp2_with (first | ((with_reducible refine at_ld ?_); refine ld_fr_g _ _ (by rfl) (by rfl) hA0 HLl.out ?_) | fail)
  refine (HWK.out _).mono ?_
  rintro e w1 ⟨rfl, hb1⟩
  have hA1 := hA0.below hb1 (by rw [HMM.out]; exact hg)
  have hx1 := hx0.below hb1
  clear hA0 hx0 hb1
  have hm1 := hx1.2.2.2
  go_wp2_with fail
  refine (wvar_yes base p T v bs kv _ hx1.1 (by omega) hwb.1 (by omega) (by omega)).mono ?_
  rintro e w2 hw2
  obtain ⟨v2, rfl, hx2, hk2⟩ := hx1.step hM hw2
  have hA2 := hA1.kept hk2 (hx1.apart hg hn0)
  have hm2 := hx2.2.2.2
  clear hw2 hk2 hx1 hA1
  have e0 := (hA2.cell 0).trans HL0.out
  have f1 := (hA2.cell 1).trans HL1.out
  have f2 := (hA2.cell 2).trans HL2.out
  go_wp2_with fail
  refine (wvar_yes base p T v2 _ s _ hx2.1 (by simp only [List.length_append, List.length_cons, List.length_nil]; have z0 := putS_le kv; omega) hs0 (by omega) (by omega)).mono ?_
  rintro e w3 hw3
  obtain ⟨v3, rfl, hx3, hk3⟩ := hx2.step hM hw3
  have hA3 := hA2.kept hk3 (hx2.apart hg hn0)
  have hm3 := hx3.2.2.2
  clear hw3 hk3 hx2 hA2
  clear f1 f2
  have f2 := (hA3.cell 2).trans HL2.out
  have f3 := (hA3.cell 3).trans HL3.out
  go_wp2_with fail
  have hrw := hx3.row hM HDT.out
  refine (wtext_any base p T v3 _ dA dn dc ds _ hx3.1 (by simp only [List.length_append, List.length_cons, List.length_nil]; have z0 := putS_le kv; have z1 := putS_le s; omega) (by omega) hrw.1 hrw.2 (by omega)).mono ?_
  rintro e w4 hw4
  obtain ⟨v4, rfl, hx4, hk4⟩ := hx3.step hM hw4
  have hA4 := hA3.kept hk4 (hx3.apart hg hn0)
  have hm4 := hx4.2.2.2
  clear hw4 hk4 hx3 hA3
  clear f2 f3
  go_wp2_with fail
  go_end0
  have hfin := hx4.post hM (.tuple #[])
  try simp only [List.append_assoc] at hfin
  have hEE := HE.out
  try simp only [List.append_assoc] at hEE
  rw [hEE]
  exact hfin
theorem write_any (base p : Nat) (T : TypeId) (v : Value) (bs : List Int) (m : FN) (d r : Sl) (ds : List Int) (rs : RS) (w : World) (h : Wtr w base p T v bs) (hl : bs.length ≤ 100000000000)
    (hf : Fits w (fun b => ¬ WS p v b) m d r ds rs) (hr : rightB m ds rs = true) (hbase : base ≤ w.heap.size) (hkk : m.k = 0 ∨ m.k = 4 ∨ m.k = 8) :
    Calls Tryz.prog 75 #[.pointer (some ⟨p, 0, none⟩), frV m d r] w (WPost (.tuple #[]) w base p T v (bs ++ oneS m ds rs)) := by
  obtain ⟨k, s, o, fin, l, c, f, q, y, c0, c1, c2, c3, c4, c5, c6, c7⟩ := m
  simp only at hkk
  rcases hkk with rfl | rfl | rfl
  · exact write_0 base p T v bs s o l c f q y c0 c1 c2 c3 c4 c5 c6 c7 fin d r ds rs w h hl hf hr hbase
  · exact write_4 base p T v bs s o l c f q y c0 c1 c2 c3 c4 c5 c6 c7 fin d r ds rs w h hl hf hr hbase
  · rcases Int.lt_or_le 0 o with ho | ho
    · exact write_8p base p T v bs s o l c f q y c0 c1 c2 c3 c4 c5 c6 c7 fin d r ds rs w h hl hf hr ho hbase
    · exact write_8z base p T v bs s o l c f q y c0 c1 c2 c3 c4 c5 c6 c7 fin d r ds rs w h hl hf hr ho hbase
end Go.Proofs.YtbejpafephofaaaGreat
