/-
  Frames that came in as a row: what their cells are.
-/
import Derived.Test.YtafegpedaidmmaaMb
import Derived.Test.YtafegpedaidmmaaN8
import Derived.Test.YtafegpedaidmmaaMf
namespace Go.Proofs.Ytafegpedaidmmaa
open Go.RowKit Go.ChangeShapes Go.WideShapes Go.Deep
set_option linter.unusedVariables false
set_option linter.unusedSimpArgs false
section
variable {H : Type} {enc : TypeId × Value → H} {w : World}
set_option maxRecDepth 100000 in
theorem rg_of_trod {fuel : Nat} {cs : List Value} {x : DataW H × List MemPlace} (h : DataW.trod enc Try.prog w 0 (fun _ => true) true fuel 60 cs = some x) (hl : cs.length = 2) :
    ∃ r : Int × Int, cs = [.int .u64 r.1, .int .u64 r.2] ∧ 0 ≤ r.1 ∧ r.1 < 18446744073709551616 ∧ 0 ≤ r.2 ∧ r.2 < 18446744073709551616 := by
  have c22 : Try.prog.cellsOf 25 = 1 := by kernel_rfl
  obtain ⟨ys, n', _, _, hlen, hyl, hf⟩ := DataW.trod_struct Try.underlying60 h
  match cs, hl with
  | [u0, u1], _ =>
    match ys, hyl with
    | [y0, y1], _ =>
      have h0 : DataW.trod enc Try.prog w 0 (fun _ => true) true n' 25 (([u0, u1].drop 0).take (Try.prog.cellsOf 25)) = some y0 := hf 0 _ rfl
      have h1 : DataW.trod enc Try.prog w 0 (fun _ => true) true n' 25 (([u0, u1].drop 1).take (Try.prog.cellsOf 25)) = some y1 := hf 1 _ rfl
      rw [c22] at h0 h1
      obtain ⟨k0, e0, _, w0⟩ := DataW.trod_int Try.underlying25 h0
      obtain ⟨k1, e1, _, w1⟩ := DataW.trod_int Try.underlying25 h1
      obtain rfl : u0 = .int .u64 k0 := by simpa using e0
      obtain rfl : u1 = .int .u64 k1 := by simpa using e1
      have b0 := bounds_u64 w0
      have b1 := bounds_u64 w1
      exact ⟨(k0, k1), rfl, b0.1, by have := b0.2; show k0 < _; omega, b1.1, by have := b1.2; show k1 < _; omega⟩
set_option maxRecDepth 100000 in
theorem rgs_of_trod {fuel : Nat} {cs : List Value} {x : DataW H × List MemPlace} (h : DataW.trod enc Try.prog w 0 (fun _ => true) true fuel 27 cs = some x) :
    ∃ A n c rs, cs = [.slice A n c] ∧ InR w (fun _ => True) ⟨A, n, c⟩ rs := by
  rcases open_slice Try.underlying27 h with ⟨rfl, _⟩ | ⟨a, len, cap, m, n, D, Pl, rfl, _, hl, hm, hmm, _, hi⟩
  · exact ⟨none, 0, 0, [], rfl, ⟨RgP.none_ _ _ _, Nat.le_refl _, by unfold maxLen; exact Nat.zero_le _, fun _ => rfl⟩⟩
  · obtain rfl : m = cap := by simpa using hmm
    have hC : Try.prog.cellsOf 60 = 2 := by kernel_rfl
    rw [hC] at hi
    obtain ⟨b, off, spot⟩ := a
    have hspot : 0 < len → spot = none := by
      intro hp
      obtain ⟨cs', hc, _⟩ := hi 0 (by omega)
      obtain ⟨_, hcl, hat⟩ := World.cells?_some hc
      have h0 := hat 0 (by omega)
      rw [List.getElem?_eq_getElem (by omega)] at h0
      simpa [Addr.add] using World.cell?_spot h0
    have each : ∀ i, i < len → ∃ r : Int × Int, spot = none ∧ b < w.heap.size ∧ (w.cell? ⟨b, off + i * 2, none⟩ = some (.int .u64 r.1) ∧ w.cell? ⟨b, off + i * 2 + 1, none⟩ = some (.int .u64 r.2)) ∧ (0 ≤ r.1 ∧ r.1 < 18446744073709551616 ∧ 0 ≤ r.2 ∧ r.2 < 18446744073709551616) := by
      intro i hil
      obtain ⟨cs', hc, ht⟩ := hi i (by omega)
      obtain ⟨_, hcl, hat⟩ := World.cells?_some hc
      obtain ⟨r, rfl, hok⟩ := rg_of_trod ht hcl
      have h0 := hat 0 (by omega)
      have h1 := hat 1 (by omega)
      rw [show [Value.int IntKind.u64 r.1, Value.int IntKind.u64 r.2][0]? = some (.int .u64 r.1) from rfl] at h0
      rw [show [Value.int IntKind.u64 r.1, Value.int IntKind.u64 r.2][1]? = some (.int .u64 r.2) from rfl] at h1
      have hs : spot = none := hspot (by omega)
      subst hs
      rw [addr_add, addr_add] at h0 h1
      exact ⟨r, rfl, cell_lt h0, ⟨h0, h1⟩, hok⟩
    obtain ⟨L, hL, hp⟩ := choose_list len each
    refine ⟨_, len, m, L, rfl, ⟨⟨hL, fun x hx => ?_, fun hpos => ?_⟩, hl, hm, fun e => by cases e⟩⟩
    · obtain ⟨i, hi', e⟩ := List.mem_iff_getElem.1 hx
      exact (hp i x (by rw [List.getElem?_eq_getElem hi', e])).2.2.2
    · obtain ⟨d, hd⟩ : ∃ d, L[0]? = some d := ⟨_, List.getElem?_eq_getElem (by simp only at hpos; omega)⟩
      obtain ⟨hs, hb, _⟩ := hp 0 d hd
      subst hs
      exact ⟨b, off, rfl, hb, trivial, fun i d hd => (hp i d hd).2.2.1⟩
set_option maxRecDepth 100000 in
theorem fr_of_trod {fuel : Nat} {cs : List Value} {x : DataW H × List MemPlace} (h : DataW.trod enc Try.prog w 0 (fun _ => true) true fuel 31 cs = some x) (hl19 : cs.length = 19) :
    ∃ y : FR, cs = frL y.m y.d y.r ∧ Fits w (fun _ => True) y.m y.d y.r y.ds y.rs := by
  have cR : Try.prog.cellsOf 27 = 1 := by kernel_rfl
  have cB : Try.prog.cellsOf 26 = 1 := by kernel_rfl
  have cO : Try.prog.cellsOf 4 = 1 := by kernel_rfl
  have cI : Try.prog.cellsOf 3 = 1 := by kernel_rfl
  have cC : Try.prog.cellsOf 29 = 8 := by kernel_rfl
  have cU : Try.prog.cellsOf 25 = 1 := by kernel_rfl
  have c5 : Try.prog.cellsOf 5 = 1 := by kernel_rfl
  obtain ⟨ys, n', _, _, hlen, hyl, hf⟩ := DataW.trod_struct Try.underlying31 h
  match cs, hl19 with
  | [u0, u1, u2, u3, u4, u5, u6, u7, u8, u9, u10, u11, u12, u13, u14, u15, u16, u17, u18], _ =>
    match ys, hyl with
    | [y0, y1, y2, y3, y4, y5, y6, y7, y8, y9, y10, y11], _ =>
      have h0 : DataW.trod enc Try.prog w 0 (fun _ => true) true n' 3 (([u0, u1, u2, u3, u4, u5, u6, u7, u8, u9, u10, u11, u12, u13, u14, u15, u16, u17, u18].drop 0).take (Try.prog.cellsOf 3)) = some y0 := hf 0 _ rfl
      have h1 : DataW.trod enc Try.prog w 0 (fun _ => true) true n' 25 (([u0, u1, u2, u3, u4, u5, u6, u7, u8, u9, u10, u11, u12, u13, u14, u15, u16, u17, u18].drop 1).take (Try.prog.cellsOf 25)) = some y1 := hf 1 _ rfl
      have h2 : DataW.trod enc Try.prog w 0 (fun _ => true) true n' 25 (([u0, u1, u2, u3, u4, u5, u6, u7, u8, u9, u10, u11, u12, u13, u14, u15, u16, u17, u18].drop 2).take (Try.prog.cellsOf 25)) = some y2 := hf 2 _ rfl
      have h3 : DataW.trod enc Try.prog w 0 (fun _ => true) true n' 26 (([u0, u1, u2, u3, u4, u5, u6, u7, u8, u9, u10, u11, u12, u13, u14, u15, u16, u17, u18].drop 3).take (Try.prog.cellsOf 26)) = some y3 := hf 3 _ rfl
      have h4 : DataW.trod enc Try.prog w 0 (fun _ => true) true n' 4 (([u0, u1, u2, u3, u4, u5, u6, u7, u8, u9, u10, u11, u12, u13, u14, u15, u16, u17, u18].drop 4).take (Try.prog.cellsOf 4)) = some y4 := hf 4 _ rfl
      have h5 : DataW.trod enc Try.prog w 0 (fun _ => true) true n' 25 (([u0, u1, u2, u3, u4, u5, u6, u7, u8, u9, u10, u11, u12, u13, u14, u15, u16, u17, u18].drop 5).take (Try.prog.cellsOf 25)) = some y5 := hf 5 _ rfl
      have h6 : DataW.trod enc Try.prog w 0 (fun _ => true) true n' 25 (([u0, u1, u2, u3, u4, u5, u6, u7, u8, u9, u10, u11, u12, u13, u14, u15, u16, u17, u18].drop 6).take (Try.prog.cellsOf 25)) = some y6 := hf 6 _ rfl
      have h7 : DataW.trod enc Try.prog w 0 (fun _ => true) true n' 25 (([u0, u1, u2, u3, u4, u5, u6, u7, u8, u9, u10, u11, u12, u13, u14, u15, u16, u17, u18].drop 7).take (Try.prog.cellsOf 25)) = some y7 := hf 7 _ rfl
      have h8 : DataW.trod enc Try.prog w 0 (fun _ => true) true n' 25 (([u0, u1, u2, u3, u4, u5, u6, u7, u8, u9, u10, u11, u12, u13, u14, u15, u16, u17, u18].drop 8).take (Try.prog.cellsOf 25)) = some y8 := hf 8 _ rfl
      have h9 : DataW.trod enc Try.prog w 0 (fun _ => true) true n' 25 (([u0, u1, u2, u3, u4, u5, u6, u7, u8, u9, u10, u11, u12, u13, u14, u15, u16, u17, u18].drop 9).take (Try.prog.cellsOf 25)) = some y9 := hf 9 _ rfl
      have h10 : DataW.trod enc Try.prog w 0 (fun _ => true) true n' 27 (([u0, u1, u2, u3, u4, u5, u6, u7, u8, u9, u10, u11, u12, u13, u14, u15, u16, u17, u18].drop 10).take (Try.prog.cellsOf 27)) = some y10 := hf 10 _ rfl
      have h11 : DataW.trod enc Try.prog w 0 (fun _ => true) true n' 29 (([u0, u1, u2, u3, u4, u5, u6, u7, u8, u9, u10, u11, u12, u13, u14, u15, u16, u17, u18].drop 11).take (Try.prog.cellsOf 29)) = some y11 := hf 11 _ rfl
      rw [cI] at h0
      rw [cU] at h1 h2 h5 h6 h7 h8 h9
      rw [cB] at h3
      rw [cO] at h4
      rw [cR] at h10
      rw [cC] at h11
      obtain ⟨k0, e0, _, w0⟩ := DataW.trod_int Try.underlying3 h0
      obtain ⟨k1, e1, _, w1⟩ := DataW.trod_int Try.underlying25 h1
      obtain ⟨k2, e2, _, w2⟩ := DataW.trod_int Try.underlying25 h2
      obtain ⟨k5, e5, _, w5⟩ := DataW.trod_int Try.underlying25 h5
      obtain ⟨k6, e6, _, w6⟩ := DataW.trod_int Try.underlying25 h6
      obtain ⟨k7, e7, _, w7⟩ := DataW.trod_int Try.underlying25 h7
      obtain ⟨k8, e8, _, w8⟩ := DataW.trod_int Try.underlying25 h8
      obtain ⟨k9, e9, _, w9⟩ := DataW.trod_int Try.underlying25 h9
      obtain ⟨A, l, c, bs, e3, hr⟩ := inRow_of_trod Try.underlying26 Try.underlying5 c5 h3
      obtain ⟨b, e4, _⟩ := DataW.trod_bool Try.underlying4 h4
      obtain ⟨A6, l6, cap6, rs, e10, hrs⟩ := rgs_of_trod h10
      obtain ⟨v, e11, hby⟩ := cid_of_trod h11 rfl
      obtain ⟨v0, v1, v2, v3, v4, v5, v6, v7⟩ := v
      obtain rfl : u0 = .int .i64 k0 := by simpa using e0
      obtain rfl : u1 = .int .u64 k1 := by simpa using e1
      have b1 := bounds_u64 w1
      obtain rfl : u2 = .int .u64 k2 := by simpa using e2
      have b2 := bounds_u64 w2
      obtain rfl : u5 = .int .u64 k5 := by simpa using e5
      have b5 := bounds_u64 w5
      obtain rfl : u6 = .int .u64 k6 := by simpa using e6
      have b6 := bounds_u64 w6
      obtain rfl : u7 = .int .u64 k7 := by simpa using e7
      have b7 := bounds_u64 w7
      obtain rfl : u8 = .int .u64 k8 := by simpa using e8
      have b8 := bounds_u64 w8
      obtain rfl : u9 = .int .u64 k9 := by simpa using e9
      have b9 := bounds_u64 w9
      obtain rfl : u3 = .slice A l c := by simpa using e3
      obtain rfl : u4 = .bool b := by simpa using e4
      obtain rfl : u10 = .slice A6 l6 cap6 := by simpa using e10
      have e12 : [u11, u12, u13, u14, u15, u16, u17, u18] = [Value.int .u8 v0, .int .u8 v1, .int .u8 v2, .int .u8 v3, .int .u8 v4, .int .u8 v5, .int .u8 v6, .int .u8 v7] := e11
      simp only [List.cons.injEq, and_true] at e12
      obtain ⟨rfl, rfl, rfl, rfl, rfl, rfl, rfl, rfl⟩ := e12
      refine ⟨⟨⟨k0, k1, k2, b, k5, k6, k7, k8, k9, v0, v1, v2, v3, v4, v5, v6, v7⟩, ⟨A, l, c⟩, ⟨A6, l6, cap6⟩, bs, rs⟩, rfl, ⟨?_, ⟨⟨hr.1, fun _ _ _ _ => trivial⟩, hr.2.1, hr.2.2.1, hr.2.2.2⟩, hrs⟩⟩
      have b0 := bounds_i64 w0
      exact ⟨b0.1, b0.2, b1.1, by have := b1.2; show k1 < _; omega, b2.1, by have := b2.2; show k2 < _; omega, b5.1, by have := b5.2; show k5 < _; omega, b6.1, by have := b6.2; show k6 < _; omega, b7.1, by have := b7.2; show k7 < _; omega, b8.1, by have := b8.2; show k8 < _; omega, b9.1, by have := b9.2; show k9 < _; omega, hby⟩
set_option maxRecDepth 100000 in
theorem frs_of_trod {fuel : Nat} {cs : List Value} {x : DataW H × List MemPlace} (h : DataW.trod enc Try.prog w 0 (fun _ => true) true fuel 22 cs = some x) :
    ∃ A n c L, cs = [.slice A n c] ∧ FrsP w (fun _ => True) A n L ∧ n ≤ c ∧ c ≤ maxLen := by
  rcases open_slice Try.underlying22 h with ⟨rfl, _⟩ | ⟨a, len, cap, m, n, D, Pl, rfl, _, hl, hm, hmm, _, hi⟩
  · exact ⟨none, 0, 0, [], rfl, ⟨rfl, fun h => absurd h (by omega), fun x hx => by cases hx⟩, Nat.le_refl _, by unfold maxLen; omega⟩
  · obtain rfl : m = cap := by simpa using hmm
    have hC : Try.prog.cellsOf 31 = 19 := by kernel_rfl
    rw [hC] at hi
    obtain ⟨b, off, spot⟩ := a
    have hspot : 0 < len → spot = none := by
      intro hp
      obtain ⟨cs', hc, _⟩ := hi 0 (by omega)
      obtain ⟨_, hcl, hat⟩ := World.cells?_some hc
      have h0 := hat 0 (by omega)
      rw [List.getElem?_eq_getElem (by omega)] at h0
      simpa [Addr.add] using World.cell?_spot h0
    have each : ∀ i, i < len → ∃ y : FR, spot = none ∧ b < w.heap.size ∧ w.rangeAt b (off + i * 19) (frL y.m y.d y.r) ∧ Fits w (fun _ => True) y.m y.d y.r y.ds y.rs := by
      intro i hil
      obtain ⟨cs', hc, ht⟩ := hi i (by omega)
      obtain ⟨_, hcl, hat⟩ := World.cells?_some hc
      obtain ⟨y, rfl, hok⟩ := fr_of_trod ht hcl
      have h0 := hat 0 (by omega)
      rw [show (frL y.m y.d y.r)[0]? = some (.int .i64 y.m.k) from rfl] at h0
      have hs : spot = none := hspot (by omega)
      subst hs
      rw [addr_add, addr_add] at h0
      refine ⟨y, rfl, cell_lt h0, fun j v hv => ?_, hok⟩
      have hj := hat j (by have := (List.getElem?_eq_some_iff.1 hv).1; rw [frL_len] at this; omega)
      rw [addr_add, addr_add] at hj
      rw [hj, hv]
    obtain ⟨L, hL, hp⟩ := choose_list len each
    refine ⟨_, len, m, L, rfl, ⟨hL, fun hpos => ?_, fun x hx => ?_⟩, hl, hm⟩
    · obtain ⟨d, hd⟩ : ∃ d, L[0]? = some d := ⟨_, List.getElem?_eq_getElem (by omega)⟩
      obtain ⟨hs, hb, _⟩ := hp 0 d hd
      subst hs
      exact ⟨b, off, rfl, hb, trivial, fun i d hd => (hp i d hd).2.2.1⟩
    · obtain ⟨i, hi', e⟩ := List.mem_iff_getElem.1 hx
      exact (hp i x (by rw [List.getElem?_eq_getElem hi', e])).2.2.2
end
end Go.Proofs.Ytafegpedaidmmaa
