/-
  inbuf.Buffer: Add.
-/
import Derived.Test.YthgbnknahnaemaaIg
namespace Go.Proofs.Ythgbnknahnaemaa
set_option linter.unusedVariables false
set_option linter.unusedSimpArgs false
open Go.RowKit
section
variable {w : World} {base p : Nat} {O : Nat → Prop} {S : BS}
theorem Bc.put {ps : Nat} {vs vw : Value} {l : RL} {W : List Int} {S' : BS} (h : Bc w base p ps vs vw l W S) (j : Nat) (u : Value) (hr : S'.rd = S.rd) (hg : S'.g = S.g)
    (he : ([.int .u64 S.rd, .int .u64 S.hi, .int .u64 S.fi, .bool S.en, .pointer (some ⟨ps, 0, none⟩), vw] : List Value).set j u = [.int .u64 S'.rd, .int .u64 S'.hi, .int .u64 S'.fi, .bool S'.en, .pointer (some ⟨ps, 0, none⟩), vw]) :
    Bc (w.setCell ⟨p, j, none⟩ u) base p ps vs vw l W S' := by
  have k : Kept (fun b => b = p) w (w.setCell ⟨p, j, none⟩ u) := (Kept.refl (fun b => b = p) w).setCell (p := ⟨p, j, none⟩) (.inl rfl) u
  exact ⟨he ▸ h.at_.set j u, h.set_.kept k (fun e => h.n1 e.symm) fun j hj e => h.n2 (by rw [hj, e]), h.own.kept k fun j hj e => h.n3 (by rw [hj, e]), h.n1, h.n2, h.n3, h.n4, h.n5, h.bp, by rw [hr, hg]; exact h.pm⟩
theorem Bf.puthi (h : Bf w base p O S) (x : Nat) : Bf (w.setCell ⟨p, 1, none⟩ (.int .u64 x)) base p O ⟨S.rd, x, S.fi, S.en, S.g⟩ := by
  obtain ⟨ps, vs, vw, l, W, e, h⟩ := h
  exact ⟨ps, vs, vw, l, W, e, h.put 1 _ rfl rfl rfl⟩
theorem Bf.putfi (h : Bf w base p O S) (x : Nat) : Bf (w.setCell ⟨p, 2, none⟩ (.int .u64 x)) base p O ⟨S.rd, S.hi, x, S.en, S.g⟩ := by
  obtain ⟨ps, vs, vw, l, W, e, h⟩ := h
  exact ⟨ps, vs, vw, l, W, e, h.put 2 _ rfl rfl rfl⟩
theorem Bf.puten (h : Bf w base p O S) (x : Bool) : Bf (w.setCell ⟨p, 3, none⟩ (.bool x)) base p O ⟨S.rd, S.hi, S.fi, x, S.g⟩ := by
  obtain ⟨ps, vs, vw, l, W, e, h⟩ := h
  exact ⟨ps, vs, vw, l, W, e, h.put 3 _ rfl rfl rfl⟩
theorem Bf.at_ (h : Bf w base p O S) : ∃ u v, At w p 52 [.int .u64 S.rd, .int .u64 S.hi, .int .u64 S.fi, .bool S.en, u, v] := by
  obtain ⟨ps, vs, vw, l, W, e, h⟩ := h
  exact ⟨_, _, h.at_⟩
theorem Bf.own_ (h : Bf w base p O S) : O p := by
  obtain ⟨ps, vs, vw, l, W, rfl, h⟩ := h
  exact .inl rfl
end
/-- What Add makes of a buffer. -/
def addR (S : BS) (off : Nat) (bs : List Int) (fin : Bool) : BS := if addE S off bs.length fin = 0 then addS S off bs fin else S
set_option maxHeartbeats 8000000 in
set_option maxRecDepth 100000 in
theorem iadd_any (base p : Nat) (O : Nat → Prop) (S : BS) (off : Nat) (A : Option Addr) (n c : Nat) (bs : List Int) (fin : Bool) (w : World) (h : Bf w base p O S) (hok : S.ok) (hb : base ≤ w.heap.size)
    (hr : RdP w (fun b => ¬ O b) A n bs) (hnc : n ≤ c) (ho : off < 18446744073709551616) (hn : n < 9223372036854775808) :
    Calls Try.prog 9 #[.pointer (some ⟨p, 0, none⟩), .int .u64 off, .slice A n c, .bool fin] w (BPost (.int .i64 (addE S off n fin)) base p O (addR S off bs fin) w) := by
  have hlen := hr.len
  have hEQ : addE S off n fin = addE S off bs.length fin := by rw [hlen]
  have NO : addE S off n fin ≠ 0 → ∀ d, BPost (.int .i64 (addE S off n fin)) base p O (addR S off bs fin) w (.returned (.int .i64 (addE S off n fin))) (w.drewN d) := fun hne d => by
    unfold addR
    rw [if_neg (by rw [← hEQ]; exact hne)]
    exact ⟨rfl, O, h.drewN d, (Kept.refl _ _).drewN d, fun j hj => .inl hj⟩
  by_cases c1 : 1099511627776 < off
  · have he : addE S off n fin = 1 := by unfold addE; rw [if_pos (.inl c1)]
    have HN := Lib.hid (NO (by rw [he]; decide) 0)
    rw [he] at HN ⊢
    have hcz : (1099511627776 : Int) < (off : Int) := by omega
    clear h hok hr hEQ NO he
    go_enter Try.func9, Try.ntmps9
    go_wp2
    go_ret
    exact HN.out
  by_cases c2 : 512 < n
  · have he : addE S off n fin = 1 := by unfold addE; rw [if_pos (.inr c2)]
    have HN := Lib.hid (NO (by rw [he]; decide) 0)
    rw [he] at HN ⊢
    have hcz : ¬ (1099511627776 : Int) < (off : Int) := by omega
    have hcn : (512 : Int) < (n : Int) := by omega
    clear h hok hr hEQ NO he
    go_enter Try.func9, Try.ntmps9
    go_wp2
    go_ret
    exact HN.out
  have hcz : ¬ (1099511627776 : Int) < (off : Int) := by omega
  have hcn : ¬ (512 : Int) < (n : Int) := by omega
  have ho' : off ≤ 1099511627776 := by omega
  have hn' : n ≤ 512 := by omega
  have hE1 : addE S off n fin = if agB S (off + n) fin = true then 30 else if S.rd + 2048 < off + n then 23 else 0 := by
    unfold addE agB
    rw [if_neg (by omega)]
  obtain ⟨E, hE⟩ : ∃ E, E = off + n := ⟨_, rfl⟩
  rw [← hE] at hE1
  clear ho hn c1 c2
  have hEz : (off : Int) + (n : Int) = (E : Int) := by omega
  have hEb : E ≤ 1099511630336 := by omega
  have HAG := Lib.hid (iag_any h E fin)
  have HE := Lib.hid hE
  clear hE
  by_cases c3 : agB S E fin = true
  · rw [if_pos c3] at hE1
    have HN := Lib.hid (NO (by rw [hE1]; decide) 0)
    rw [hE1] at HN ⊢
    rw [c3] at HAG
    clear h hok hr hEQ NO hE1 c3
    go_enter Try.func9, Try.ntmps9
    go_wp2_with (go_at_call 22; (with_reducible refine HAG.out.mono ?_); rintro e w2 ⟨rfl, rfl⟩)
    go_ret
    exact HN.out
  rw [if_neg c3] at hE1
  have c3' : agB S E fin = false := by simpa using c3
  rw [c3'] at HAG
  have hrd : S.rd ≤ 1099511628288 := by have := hok.rh; have := hok.hm; omega
  obtain ⟨u4, u5, hat⟩ := h.at_
  have h0 : w.cell? ⟨p, 0, none⟩ = some (.int .u64 S.rd) := by rw [hat.cell]; rfl
  by_cases c4 : S.rd + 2048 < E
  · rw [if_pos c4] at hE1
    have HN := Lib.hid (NO (by rw [hE1]; decide) 0)
    rw [hE1] at HN ⊢
    have hc4z : (S.rd : Int) + 2048 < (E : Int) := by omega
    clear h hok hr hEQ NO hE1 c3 c3' hat
    go_enter Try.func9, Try.ntmps9
    go_wp2_with (go_at_call 22; (with_reducible refine HAG.out.mono ?_); rintro e w2 ⟨rfl, rfl⟩)
    go_ret
    exact HN.out
  rw [if_neg c4] at hE1
  have hc4z : ¬ (S.rd : Int) + 2048 < (E : Int) := by omega
  have hR : addR S off bs fin = addS S off bs fin := by unfold addR; rw [if_pos (by rw [← hEQ]; exact hE1)]
  rw [hR, hE1]
  have HFI := Lib.hid (fill_any base p O S off A n c bs w h hok hb hr hnc (by have := HE.out; omega))
  have hhi : S.hi ≤ 1099511628288 := hok.hm
  have HS : Hid (addS S off bs fin = ⟨S.rd, max S.hi E, if fin then E else S.fi, S.en || fin, addG S.g off bs⟩) := Lib.hid (by unfold addS; rw [hlen, ← HE.out])
  clear NO hE1 c3 c3' hR hEQ hr hok hat
  have HPO : Hid (O p) := Lib.hid h.own_
  clear h
  rcases Nat.lt_or_ge S.hi E with hm | hm
  · have hmx : max S.hi E = E := by omega
    rw [hmx] at HS
    have hmz : (S.hi : Int) < (E : Int) := by omega
    clear hmx hm
    cases fin
    · have HS2 : Hid (addS S off bs false = ⟨S.rd, E, S.fi, S.en, addG S.g off bs⟩) := Lib.hid (by rw [HS.out]; simp)
      go_enter Try.func9, Try.ntmps9
      go_wp2_with (first | (go_at_call 22; (with_reducible refine HAG.out.mono ?_); rintro e w1 ⟨rfl, rfl⟩) | (go_at_call 23; (with_reducible refine HFI.out.mono ?_); rintro e w2 ⟨rfl, O2, hB, hK, hO2⟩; obtain ⟨u6, u7, ha2⟩ := hB.at_; have d1 : w2.cell? ⟨p, 1, none⟩ = some (.int .u64 S.hi) := (by rw [ha2.cell]; rfl); have d2 : w2.cell? ⟨p, 2, none⟩ = some (.int .u64 S.fi) := (by rw [ha2.cell]; rfl); have d3 : w2.cell? ⟨p, 3, none⟩ = some (.bool S.en) := (by rw [ha2.cell]; rfl); have f1 := ha2.frozen 1; have f2 := ha2.frozen 2; have f3 := ha2.frozen 3; have HB := Lib.hid hB; have HK := Lib.hid hK; have HO2 := Lib.hid hO2; clear hB hK hO2 ha2))
      go_ret
      have hb2 := (HB.out.puthi E)
      refine ⟨rfl, O2, ?_, (HK.out.setCell (p := ⟨p, 1, none⟩) (.inl HPO.out) (.int .u64 E)), HO2.out⟩
      rw [HS2.out]
      exact hb2
    · have HS2 : Hid (addS S off bs true = ⟨S.rd, E, E, true, addG S.g off bs⟩) := Lib.hid (by rw [HS.out]; simp)
      go_enter Try.func9, Try.ntmps9
      go_wp2_with (first | (go_at_call 22; (with_reducible refine HAG.out.mono ?_); rintro e w1 ⟨rfl, rfl⟩) | (go_at_call 23; (with_reducible refine HFI.out.mono ?_); rintro e w2 ⟨rfl, O2, hB, hK, hO2⟩; obtain ⟨u6, u7, ha2⟩ := hB.at_; have d1 : w2.cell? ⟨p, 1, none⟩ = some (.int .u64 S.hi) := (by rw [ha2.cell]; rfl); have d2 : w2.cell? ⟨p, 2, none⟩ = some (.int .u64 S.fi) := (by rw [ha2.cell]; rfl); have d3 : w2.cell? ⟨p, 3, none⟩ = some (.bool S.en) := (by rw [ha2.cell]; rfl); have f1 := ha2.frozen 1; have f2 := ha2.frozen 2; have f3 := ha2.frozen 3; have HB := Lib.hid hB; have HK := Lib.hid hK; have HO2 := Lib.hid hO2; clear hB hK hO2 ha2))
      go_ret
      have hb2 := (((HB.out.puthi E).putfi E).puten true)
      refine ⟨rfl, O2, ?_, (((HK.out.setCell (p := ⟨p, 1, none⟩) (.inl HPO.out) (.int .u64 E)).setCell (p := ⟨p, 2, none⟩) (.inl HPO.out) (.int .u64 E)).setCell (p := ⟨p, 3, none⟩) (.inl HPO.out) (.bool true)), HO2.out⟩
      rw [HS2.out]
      exact hb2
  · have hmx : max S.hi E = S.hi := by omega
    rw [hmx] at HS
    have hmz : ¬ (S.hi : Int) < (E : Int) := by omega
    clear hmx
    cases fin
    · have HS2 : Hid (addS S off bs false = ⟨S.rd, S.hi, S.fi, S.en, addG S.g off bs⟩) := Lib.hid (by rw [HS.out]; simp)
      go_enter Try.func9, Try.ntmps9
      go_wp2_with (first | (go_at_call 22; (with_reducible refine HAG.out.mono ?_); rintro e w1 ⟨rfl, rfl⟩) | (go_at_call 23; (with_reducible refine HFI.out.mono ?_); rintro e w2 ⟨rfl, O2, hB, hK, hO2⟩; obtain ⟨u6, u7, ha2⟩ := hB.at_; have d1 : w2.cell? ⟨p, 1, none⟩ = some (.int .u64 S.hi) := (by rw [ha2.cell]; rfl); have d2 : w2.cell? ⟨p, 2, none⟩ = some (.int .u64 S.fi) := (by rw [ha2.cell]; rfl); have d3 : w2.cell? ⟨p, 3, none⟩ = some (.bool S.en) := (by rw [ha2.cell]; rfl); have f1 := ha2.frozen 1; have f2 := ha2.frozen 2; have f3 := ha2.frozen 3; have HB := Lib.hid hB; have HK := Lib.hid hK; have HO2 := Lib.hid hO2; clear hB hK hO2 ha2))
      go_ret
      have hb2 := (HB.out.puthi S.hi)
      refine ⟨rfl, O2, ?_, (HK.out.setCell (p := ⟨p, 1, none⟩) (.inl HPO.out) (.int .u64 S.hi)), HO2.out⟩
      rw [HS2.out]
      exact hb2
    · have HS2 : Hid (addS S off bs true = ⟨S.rd, S.hi, E, true, addG S.g off bs⟩) := Lib.hid (by rw [HS.out]; simp)
      go_enter Try.func9, Try.ntmps9
      go_wp2_with (first | (go_at_call 22; (with_reducible refine HAG.out.mono ?_); rintro e w1 ⟨rfl, rfl⟩) | (go_at_call 23; (with_reducible refine HFI.out.mono ?_); rintro e w2 ⟨rfl, O2, hB, hK, hO2⟩; obtain ⟨u6, u7, ha2⟩ := hB.at_; have d1 : w2.cell? ⟨p, 1, none⟩ = some (.int .u64 S.hi) := (by rw [ha2.cell]; rfl); have d2 : w2.cell? ⟨p, 2, none⟩ = some (.int .u64 S.fi) := (by rw [ha2.cell]; rfl); have d3 : w2.cell? ⟨p, 3, none⟩ = some (.bool S.en) := (by rw [ha2.cell]; rfl); have f1 := ha2.frozen 1; have f2 := ha2.frozen 2; have f3 := ha2.frozen 3; have HB := Lib.hid hB; have HK := Lib.hid hK; have HO2 := Lib.hid hO2; clear hB hK hO2 ha2))
      go_ret
      have hb2 := (((HB.out.puthi S.hi).putfi E).puten true)
      refine ⟨rfl, O2, ?_, (((HK.out.setCell (p := ⟨p, 1, none⟩) (.inl HPO.out) (.int .u64 S.hi)).setCell (p := ⟨p, 2, none⟩) (.inl HPO.out) (.int .u64 E)).setCell (p := ⟨p, 3, none⟩) (.inl HPO.out) (.bool true)), HO2.out⟩
      rw [HS2.out]
      exact hb2
end Go.Proofs.Ythgbnknahnaemaa
