/-
  A row of the law's calls that came in, out of its reading.
-/
import Derived.Test.YtpihgikcgkipaaaVe
import Derived.Test.YtpihgikcgkipaaaOpenRow
import Derived.Deep.Slices
import Derived.ChangeSlices
namespace Go.Proofs.Ytpihgikcgkipaaa
set_option linter.unusedVariables false
set_option linter.unusedSimpArgs false
open Go.RowKit Go.ChangeShapes Go.WideShapes Go.Deep
/-- What stands in a call that came in, at place o of block b. -/
structure AxAt (w : World) (B b o : Nat) (k : Int) (x : AX) : Prop where
  c0 : w.cell? ⟨b, o, none⟩ = some (.int .i64 k)
  c1 : w.cell? ⟨b, o + 1, none⟩ = some (.int .i64 x.skip)
  c2 : w.cell? ⟨b, o + 2, none⟩ = some (.int .i64 x.size)
  c3 : w.cell? ⟨b, o + 3, none⟩ = some (.bool x.asks)
  c4 : w.cell? ⟨b, o + 4, none⟩ = some (.int .i64 x.time)
  c5 : w.cell? ⟨b, o + 5, none⟩ = some (.int .u64 x.from_)
  c6 : w.cell? ⟨b, o + 6, none⟩ = some (.slice x.ro.A x.ro.n x.ro.c)
  c7 : w.cell? ⟨b, o + 7, none⟩ = some (.int .u64 x.p.n)
  c8 : w.cell? ⟨b, o + 8, none⟩ = some (.int .i64 x.p.t)
  c9 : w.cell? ⟨b, o + 9, none⟩ = some (.int .i64 x.p.s)
  c10 : w.cell? ⟨b, o + 10, none⟩ = some (.bool x.p.a)
  c11 : w.cell? ⟨b, o + 11, none⟩ = some (.slice x.p.A x.p.k x.p.c)
  c12 : w.cell? ⟨b, o + 12, none⟩ = some (.slice x.r.A x.r.n x.r.c)
  ok : ∃ rs xs, AskOk w x (· < B) rs xs
theorem AskOk.below {w w' : World} {x : AX} {P : Nat → Prop} {rs : RL} {xs : List Int} (h : AskOk w x P rs xs) (k : Below w.heap.size w w') : AskOk w' x P rs xs :=
  ⟨h.hu.below k, h.huc, h.hr.below k, h.hrc, h.hf, h.hsk⟩
theorem AxAt.below {w w' : World} {B b o : Nat} {k : Int} {x : AX} (h : AxAt w B b o k x) (hb : Below w.heap.size w w') (hlt : b < w.heap.size) : AxAt w' B b o k x := by
  obtain ⟨rs, xs, ho⟩ := h.ok
  exact ⟨(hb.cell (p := ⟨b, _, none⟩) hlt).trans h.c0, (hb.cell (p := ⟨b, _, none⟩) hlt).trans h.c1, (hb.cell (p := ⟨b, _, none⟩) hlt).trans h.c2, (hb.cell (p := ⟨b, _, none⟩) hlt).trans h.c3, (hb.cell (p := ⟨b, _, none⟩) hlt).trans h.c4, (hb.cell (p := ⟨b, _, none⟩) hlt).trans h.c5, (hb.cell (p := ⟨b, _, none⟩) hlt).trans h.c6, (hb.cell (p := ⟨b, _, none⟩) hlt).trans h.c7, (hb.cell (p := ⟨b, _, none⟩) hlt).trans h.c8, (hb.cell (p := ⟨b, _, none⟩) hlt).trans h.c9, (hb.cell (p := ⟨b, _, none⟩) hlt).trans h.c10, (hb.cell (p := ⟨b, _, none⟩) hlt).trans h.c11, (hb.cell (p := ⟨b, _, none⟩) hlt).trans h.c12, ⟨rs, xs, ho.below hb⟩⟩
/-- A row of the law's calls that came in. -/
structure Axs (w : World) (B : Nat) (A : Option Addr) (n : Nat) : Prop where
  at_ : 0 < n → ∃ b off, A = some ⟨b, off, none⟩ ∧ b < w.heap.size ∧ ∀ i, i < n → ∃ k x, AxAt w B b (off + i * 13) k x
theorem Axs.below {w w' : World} {B n : Nat} {A : Option Addr} (h : Axs w B A n) (k : Below w.heap.size w w') : Axs w' B A n := ⟨fun hn => by
  obtain ⟨b, off, e, hb, hc⟩ := h.at_ hn
  exact ⟨b, off, e, Nat.lt_of_lt_of_le hb k.size, fun i hi => by obtain ⟨kk, x, hx⟩ := hc i hi; exact ⟨kk, x, hx.below k hb⟩⟩⟩
section
variable {H : Type} {enc : TypeId × Value → H} {w : World}
set_option maxRecDepth 100000 in
theorem rn_of_trod {fuel : Nat} {cs : List Value} {x : DataW H × List MemPlace} (h : DataW.trod enc Try.prog w 0 (fun _ => true) true fuel 38 cs = some x) (hl : cs.length = 2) :
    ∃ r : Int × Int, cs = [.int .u64 r.1, .int .u64 r.2] ∧ 0 ≤ r.1 ∧ r.1 < 18446744073709551616 ∧ 0 ≤ r.2 ∧ r.2 < 18446744073709551616 := by
  have c22 : Try.prog.cellsOf 26 = 1 := by kernel_rfl
  obtain ⟨ys, n', _, _, hlen, hyl, hf⟩ := DataW.trod_struct Try.underlying38 h
  match cs, hl with
  | [u0, u1], _ =>
    match ys, hyl with
    | [y0, y1], _ =>
      have h0 : DataW.trod enc Try.prog w 0 (fun _ => true) true n' 26 (([u0, u1].drop 0).take (Try.prog.cellsOf 26)) = some y0 := hf 0 _ rfl
      have h1 : DataW.trod enc Try.prog w 0 (fun _ => true) true n' 26 (([u0, u1].drop 1).take (Try.prog.cellsOf 26)) = some y1 := hf 1 _ rfl
      rw [c22] at h0 h1
      obtain ⟨k0, e0, _, w0⟩ := DataW.trod_int Try.underlying26 h0
      obtain ⟨k1, e1, _, w1⟩ := DataW.trod_int Try.underlying26 h1
      obtain rfl : u0 = .int .u64 k0 := by simpa using e0
      obtain rfl : u1 = .int .u64 k1 := by simpa using e1
      have b0 := bounds_u64 w0
      have b1 := bounds_u64 w1
      exact ⟨(k0, k1), rfl, b0.1, by have := b0.2; show k0 < _; omega, b1.1, by have := b1.2; show k1 < _; omega⟩
set_option maxRecDepth 100000 in
theorem rns_of_trod {fuel : Nat} {cs : List Value} {x : DataW H × List MemPlace} (h : DataW.trod enc Try.prog w 0 (fun _ => true) true fuel 34 cs = some x) :
    ∃ A n c rs, cs = [.slice A n c] ∧ RnP w (· < w.heap.size) A n rs ∧ n ≤ c ∧ c ≤ maxLen := by
  rcases open_slice Try.underlying34 h with ⟨rfl, _⟩ | ⟨a, len, cap, m, n, D, Pl, rfl, _, hl, hm, hmm, _, hi⟩
  · exact ⟨none, 0, 0, [], rfl, RnP.none_ _ _ _, Nat.le_refl _, by unfold maxLen; exact Nat.zero_le _⟩
  · obtain rfl : m = cap := by simpa using hmm
    have hC : Try.prog.cellsOf 38 = 2 := by kernel_rfl
    rw [hC] at hi
    obtain ⟨b, off, spot⟩ := a
    have hspot : 0 < len → spot = none := by
      intro hp
      obtain ⟨cs', hc, _⟩ := hi 0 (by omega)
      obtain ⟨_, hcl, hat⟩ := World.cells?_some hc
      have h0 := hat 0 (by omega)
      rw [List.getElem?_eq_getElem (by omega)] at h0
      simpa [Addr.add] using World.cell?_spot h0
    have each : ∀ i, i < len → ∃ r : Int × Int, spot = none ∧ b < w.heap.size ∧ (w.cell? ⟨b, off + i * 2, none⟩ = some (.int .u64 r.1) ∧ w.cell? ⟨b, off + i * 2 + 1, none⟩ = some (.int .u64 r.2)) ∧ (0 ≤ r.1 ∧ r.1 < 18446744073709551616 ∧ 0 ≤ r.2 ∧ r.2 < 18446744073709551616) := by
      intro i hil
      obtain ⟨cs', hc, ht⟩ := hi i (by omega)
      obtain ⟨_, hcl, hat⟩ := World.cells?_some hc
      obtain ⟨r, rfl, hok⟩ := rn_of_trod ht hcl
      have h0 := hat 0 (by omega)
      have h1 := hat 1 (by omega)
      rw [show [Value.int IntKind.u64 r.1, Value.int IntKind.u64 r.2][0]? = some (.int .u64 r.1) from rfl] at h0
      rw [show [Value.int IntKind.u64 r.1, Value.int IntKind.u64 r.2][1]? = some (.int .u64 r.2) from rfl] at h1
      have hs : spot = none := hspot (by omega)
      subst hs
      rw [addr_add, addr_add] at h0 h1
      exact ⟨r, rfl, cell_lt h0, ⟨h0, h1⟩, hok⟩
    obtain ⟨L, hL, hp⟩ := choose_list len each
    refine ⟨_, len, m, L, rfl, ⟨hL, fun x hx => ?_, fun hpos => ?_⟩, hl, hm⟩
    · obtain ⟨i, hi', e⟩ := List.mem_iff_getElem.1 hx
      exact (hp i x (by rw [List.getElem?_eq_getElem hi', e])).2.2.2
    · obtain ⟨d, hd⟩ : ∃ d, L[0]? = some d := ⟨_, List.getElem?_eq_getElem (by omega)⟩
      obtain ⟨hs, hb, _⟩ := hp 0 d hd
      subst hs
      exact ⟨b, off, rfl, hb, hb, fun i d hd => (hp i d hd).2.2.1⟩
set_option maxRecDepth 100000 in
theorem un_of_trod {fuel : Nat} {cs : List Value} {x : DataW H × List MemPlace} (h : DataW.trod enc Try.prog w 0 (fun _ => true) true fuel 33 cs = some x) :
    ∃ A n c xs, cs = [.slice A n c] ∧ UnP w A n xs ∧ n ≤ c ∧ c ≤ maxLen := by
  rcases open_ints Try.underlying33 Try.underlying26 (by kernel_rfl) h with ⟨hcs, hx⟩ | ⟨x', l, c, zs, hcs, _, hl, hm, hz, hx, hcell, hwz⟩
  · exact ⟨none, 0, 0, [], hcs, UnP.nil_ _ _, Nat.le_refl _, by unfold maxLen; exact Nat.zero_le _⟩
  · have hz' : zs.length = c := by simpa using hz
    refine ⟨_, _, _, zs.take l, hcs, ⟨by rw [List.length_take]; omega, fun y hy => by have := bounds_u64 (hwz y (List.mem_of_mem_take hy)); omega, fun hp => ?_⟩, hl, hm⟩
    obtain ⟨b, off, spot⟩ := x'
    have h0 := hcell 0 (by omega)
    have hs : spot = none := by simpa [Addr.add] using World.cell?_spot h0
    subst hs
    rw [addr_add] at h0
    refine ⟨b, off, rfl, cell_lt h0, fun i y hi => ?_⟩
    rw [List.getElem?_take] at hi
    split at hi
    · rename_i hil
      have h2 := hcell i (by omega)
      rw [addr_add] at h2
      rw [h2, List.getD_eq_getElem?_getD, hi]; rfl
    · cases hi
set_option maxRecDepth 100000 in
theorem pk_of_trod {fuel : Nat} {cs : List Value} {x : DataW H × List MemPlace} (h : DataW.trod enc Try.prog w 0 (fun _ => true) true fuel 31 cs = some x) (hl : cs.length = 5) : ∃ r : PK, cs = pkC r := by
  have c1 : Try.prog.cellsOf 26 = 1 := by kernel_rfl
  have c2 : Try.prog.cellsOf 2 = 1 := by kernel_rfl
  have c3 : Try.prog.cellsOf 3 = 1 := by kernel_rfl
  have c4 : Try.prog.cellsOf 4 = 1 := by kernel_rfl
  have c5 : Try.prog.cellsOf 29 = 1 := by kernel_rfl
  obtain ⟨ys, n', _, _, hlen, hyl, hf⟩ := DataW.trod_struct Try.underlying31 h
  match cs, hl with
  | [u0, u1, u2, u3, u4], _ =>
    match ys, hyl with
    | [y0, y1, y2, y3, y4], _ =>
      have h0 : DataW.trod enc Try.prog w 0 (fun _ => true) true n' 26 (([u0, u1, u2, u3, u4].drop 0).take (Try.prog.cellsOf 26)) = some y0 := hf 0 _ rfl
      have h1 : DataW.trod enc Try.prog w 0 (fun _ => true) true n' 2 (([u0, u1, u2, u3, u4].drop 1).take (Try.prog.cellsOf 2)) = some y1 := hf 1 _ rfl
      have h2 : DataW.trod enc Try.prog w 0 (fun _ => true) true n' 3 (([u0, u1, u2, u3, u4].drop 2).take (Try.prog.cellsOf 3)) = some y2 := hf 2 _ rfl
      have h3 : DataW.trod enc Try.prog w 0 (fun _ => true) true n' 4 (([u0, u1, u2, u3, u4].drop 3).take (Try.prog.cellsOf 4)) = some y3 := hf 3 _ rfl
      have h4 : DataW.trod enc Try.prog w 0 (fun _ => true) true n' 29 (([u0, u1, u2, u3, u4].drop 4).take (Try.prog.cellsOf 29)) = some y4 := hf 4 _ rfl
      rw [c1] at h0
      rw [c2] at h1
      rw [c3] at h2
      rw [c4] at h3
      rw [c5] at h4
      obtain ⟨k0, e0, _, _⟩ := DataW.trod_int Try.underlying26 h0
      obtain ⟨k1, e1, _, _⟩ := DataW.trod_int Try.underlying2 h1
      obtain ⟨k2, e2, _, _⟩ := DataW.trod_int Try.underlying3 h2
      obtain ⟨b3, e3, _⟩ := DataW.trod_bool Try.underlying4 h3
      obtain ⟨A, n, c, e4⟩ : ∃ A n c, [u4] = [Value.slice A n c] := by
        rcases open_slice Try.underlying29 h4 with ⟨e, _⟩ | ⟨a, len, cap, m, n, D, Pl, e, _⟩
        · exact ⟨none, 0, 0, e⟩
        · exact ⟨_, _, _, e⟩
      obtain rfl : u0 = .int .u64 k0 := by simpa using e0
      obtain rfl : u1 = .int .i64 k1 := by simpa using e1
      obtain rfl : u2 = .int .i64 k2 := by simpa using e2
      obtain rfl : u3 = .bool b3 := by simpa using e3
      obtain rfl : u4 = .slice A n c := by simpa using e4
      exact ⟨⟨k0, k1, k2, b3, A, n, c⟩, rfl⟩
set_option maxRecDepth 100000 in
set_option maxHeartbeats 4000000 in
theorem ask11_of_trod {fuel : Nat} {cs : List Value} {x : DataW H × List MemPlace} (h : DataW.trod enc Try.prog w 0 (fun _ => true) true fuel 36 cs = some x) (hl : cs.length = 13) :
    ∃ (k : Int) (x : AX), cs = axL k x ∧ ∃ rs xs, AskOk w x (· < w.heap.size) rs xs := by
  have cI : Try.prog.cellsOf 3 = 1 := by kernel_rfl
  have cB : Try.prog.cellsOf 4 = 1 := by kernel_rfl
  have cT : Try.prog.cellsOf 2 = 1 := by kernel_rfl
  have cU : Try.prog.cellsOf 26 = 1 := by kernel_rfl
  have cS : Try.prog.cellsOf 33 = 1 := by kernel_rfl
  have cP : Try.prog.cellsOf 31 = 5 := by kernel_rfl
  have cR : Try.prog.cellsOf 34 = 1 := by kernel_rfl
  obtain ⟨ys, n', _, _, hlen, hyl, hf⟩ := DataW.trod_struct Try.underlying36 h
  match cs, hl with
  | [u0, u1, u2, u3, u4, u5, u6, u7, u8, u9, u10, u11, u12], _ =>
    match ys, hyl with
    | [y0, y1, y2, y3, y4, y5, y6, y7, y8], _ =>
      have h0 : DataW.trod enc Try.prog w 0 (fun _ => true) true n' 3 (([u0, u1, u2, u3, u4, u5, u6, u7, u8, u9, u10, u11, u12].drop 0).take (Try.prog.cellsOf 3)) = some y0 := hf 0 _ rfl
      have h1 : DataW.trod enc Try.prog w 0 (fun _ => true) true n' 3 (([u0, u1, u2, u3, u4, u5, u6, u7, u8, u9, u10, u11, u12].drop 1).take (Try.prog.cellsOf 3)) = some y1 := hf 1 _ rfl
      have h2 : DataW.trod enc Try.prog w 0 (fun _ => true) true n' 3 (([u0, u1, u2, u3, u4, u5, u6, u7, u8, u9, u10, u11, u12].drop 2).take (Try.prog.cellsOf 3)) = some y2 := hf 2 _ rfl
      have h3 : DataW.trod enc Try.prog w 0 (fun _ => true) true n' 4 (([u0, u1, u2, u3, u4, u5, u6, u7, u8, u9, u10, u11, u12].drop 3).take (Try.prog.cellsOf 4)) = some y3 := hf 3 _ rfl
      have h4 : DataW.trod enc Try.prog w 0 (fun _ => true) true n' 2 (([u0, u1, u2, u3, u4, u5, u6, u7, u8, u9, u10, u11, u12].drop 4).take (Try.prog.cellsOf 2)) = some y4 := hf 4 _ rfl
      have h5 : DataW.trod enc Try.prog w 0 (fun _ => true) true n' 26 (([u0, u1, u2, u3, u4, u5, u6, u7, u8, u9, u10, u11, u12].drop 5).take (Try.prog.cellsOf 26)) = some y5 := hf 5 _ rfl
      have h6 : DataW.trod enc Try.prog w 0 (fun _ => true) true n' 33 (([u0, u1, u2, u3, u4, u5, u6, u7, u8, u9, u10, u11, u12].drop 6).take (Try.prog.cellsOf 33)) = some y6 := hf 6 _ rfl
      have h7 : DataW.trod enc Try.prog w 0 (fun _ => true) true n' 31 (([u0, u1, u2, u3, u4, u5, u6, u7, u8, u9, u10, u11, u12].drop 7).take (Try.prog.cellsOf 31)) = some y7 := hf 7 _ rfl
      have h8 : DataW.trod enc Try.prog w 0 (fun _ => true) true n' 34 (([u0, u1, u2, u3, u4, u5, u6, u7, u8, u9, u10, u11, u12].drop 12).take (Try.prog.cellsOf 34)) = some y8 := hf 8 _ rfl
      rw [cI] at h0 h1 h2
      rw [cB] at h3
      rw [cT] at h4
      rw [cU] at h5
      rw [cS] at h6
      rw [cP] at h7
      rw [cR] at h8
      obtain ⟨k0, e0, _, w0⟩ := DataW.trod_int Try.underlying3 h0
      obtain ⟨k1, e1, _, w1⟩ := DataW.trod_int Try.underlying3 h1
      obtain ⟨k2, e2, _, w2⟩ := DataW.trod_int Try.underlying3 h2
      obtain ⟨b3, e3, _⟩ := DataW.trod_bool Try.underlying4 h3
      obtain ⟨k4, e4, _, w4⟩ := DataW.trod_int Try.underlying2 h4
      obtain ⟨k5, e5, _, w5⟩ := DataW.trod_int Try.underlying26 h5
      obtain ⟨A6, l6, cap6, xs, e6, hu, hu1, hu2⟩ := un_of_trod h6
      obtain ⟨r, e7⟩ := pk_of_trod h7 rfl
      obtain ⟨A8, l8, cap8, rs, e8, hr, hr1, hr2⟩ := rns_of_trod h8
      obtain rfl : u0 = .int .i64 k0 := by simpa using e0
      obtain rfl : u1 = .int .i64 k1 := by simpa using e1
      obtain rfl : u2 = .int .i64 k2 := by simpa using e2
      obtain rfl : u3 = .bool b3 := by simpa using e3
      obtain rfl : u4 = .int .i64 k4 := by simpa using e4
      obtain rfl : u5 = .int .u64 k5 := by simpa using e5
      obtain rfl : u6 = .slice A6 l6 cap6 := by simpa using e6
      obtain rfl : u12 = .slice A8 l8 cap8 := by simpa using e8
      have e9 : [u7, u8, u9, u10, u11] = pkC r := e7
      simp only [pkC, List.cons.injEq, and_true] at e9
      obtain ⟨rfl, rfl, rfl, rfl, rfl⟩ := e9
      have b1 := bounds_i64 w1
      have b5 := bounds_u64 w5
      exact ⟨k0, ⟨k1, k2, b3, k4, k5, ⟨A6, l6, cap6⟩, r, ⟨A8, l8, cap8⟩⟩, rfl, rs, xs, ⟨hu, ⟨hu1, hu2⟩, hr, ⟨hr1, hr2⟩, ⟨b5.1, by have := b5.2; show k5 < _; omega⟩, ⟨b1.1, by have := b1.2; show k1 < _; omega⟩⟩⟩
set_option maxRecDepth 100000 in
set_option maxHeartbeats 4000000 in
theorem axs_of_trod {fuel : Nat} {cs : List Value} {x : DataW H × List MemPlace} (h : DataW.trod enc Try.prog w 0 (fun _ => true) true fuel 41 cs = some x) :
    ∃ A n c, cs = [.slice A n c] ∧ Axs w w.heap.size A n ∧ n ≤ c ∧ c ≤ maxLen := by
  rcases open_slice Try.underlying41 h with ⟨rfl, _⟩ | ⟨a, len, cap, m, n, D, Pl, rfl, _, hl, hm, hmm, _, hi⟩
  · exact ⟨none, 0, 0, rfl, ⟨fun h => absurd h (by omega)⟩, Nat.le_refl _, by unfold maxLen; exact Nat.zero_le _⟩
  · obtain rfl : m = cap := by simpa using hmm
    have hC : Try.prog.cellsOf 36 = 13 := by kernel_rfl
    rw [hC] at hi
    obtain ⟨b, off, spot⟩ := a
    have hspot : 0 < len → spot = none := by
      intro hp
      obtain ⟨cs', hc, _⟩ := hi 0 (by omega)
      obtain ⟨_, hcl, hat⟩ := World.cells?_some hc
      have h0 := hat 0 (by omega)
      rw [List.getElem?_eq_getElem (by omega)] at h0
      simpa [Addr.add] using World.cell?_spot h0
    refine ⟨_, len, m, rfl, ⟨fun hp => ?_⟩, hl, hm⟩
    have hs := hspot hp
    subst hs
    have each : ∀ i, i < len → b < w.heap.size ∧ ∃ k x, AxAt w w.heap.size b (off + i * 13) k x := by
      intro i hil
      obtain ⟨cs', hc, ht⟩ := hi i (by omega)
      obtain ⟨_, hcl, hat⟩ := World.cells?_some hc
      obtain ⟨k, x, rfl, hok⟩ := ask11_of_trod ht hcl
      have hA : ∀ j u, (axL k x)[j]? = some u → w.cell? ⟨b, off + i * 13 + j, none⟩ = some u := fun j u hu => by
        have hj : j < 13 := by have := (List.getElem?_eq_some_iff.1 hu).1; rw [hcl] at this; exact this
        have hx := hat j hj
        rw [hu, addr_add, addr_add] at hx
        exact hx
      exact ⟨cell_lt (hA 0 _ rfl), k, x, hA 0 _ rfl, hA 1 _ rfl, hA 2 _ rfl, hA 3 _ rfl, hA 4 _ rfl, hA 5 _ rfl, hA 6 _ rfl, hA 7 _ rfl, hA 8 _ rfl, hA 9 _ rfl, hA 10 _ rfl, hA 11 _ rfl, hA 12 _ rfl, hok⟩
    exact ⟨b, off, rfl, (each 0 hp).1, fun i hi => (each i hi).2⟩
end
end Go.Proofs.Ytpihgikcgkipaaa
