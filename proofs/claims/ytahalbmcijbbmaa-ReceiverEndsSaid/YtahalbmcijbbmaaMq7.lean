/-
  inbuf.Buffer: fill.
-/
import Derived.Test.YtahalbmcijbbmaaIf
import Derived.StillTailTactics
namespace Go.Proofs.Ytahalbmcijbbmaa
section
set_option linter.unusedVariables false
set_option linter.unusedSimpArgs false
open Go.RowKit
/-- What fill keeps while it lays gap by gap. -/
structure Fl (w wr : World) (base p : Nat) (O : Nat → Prop) (S : BS) (off : Nat) (bs : List Int) (f : Nat) : Prop where
  bf : ∃ O', Bf wr base p O' ⟨S.rd, S.hi, S.fi, S.en, addG S.g off (bs.take (f - off))⟩ ∧ ∀ j, O' j → O j ∨ w.heap.size ≤ j
  k : Kept O w wr
set_option maxHeartbeats 4000000 in
set_option maxRecDepth 100000 in
theorem fill_any (base p : Nat) (O : Nat → Prop) (S : BS) (off : Nat) (A : Option Addr) (n c : Nat) (bs : List Int) (w : World) (h : Bf w base p O S) (hok : S.ok) (hb : base ≤ w.heap.size)
    (hr : RdP w (fun b => ¬ O b) A n bs) (hnc : n ≤ c) (h2 : off + n ≤ S.rd + 2048) :
    Calls Try.prog 39 #[.pointer (some ⟨p, 0, none⟩), .int .u64 off, .slice A n c] w (BPost (.tuple #[]) base p O ⟨S.rd, S.hi, S.fi, S.en, addG S.g off bs⟩ w) := by
  have hst := addG_start S hok off bs
  have hrd : S.rd ≤ 1099511628288 := by have := hok.rh; have := hok.hm; omega
  have hlen := hr.len
  have hHB : Hid (∀ b, O b → b < w.heap.size) := Lib.hid (fun b hb => (h.lt b hb).2)
  have HFL : Hid (Fl w w base p O S off bs (max off S.rd)) := Lib.hid ⟨⟨O, by rw [hst]; exact h, fun j hj => .inl hj⟩, Kept.refl _ _⟩
  have hc0 : w.cell? ⟨p, 0, none⟩ = some (.int .u64 S.rd) := by
    obtain ⟨ps, vs, vw, l, W, _, hc⟩ := h
    exact hc.c0
  have HEND : Hid (∀ (wr : World) (f : Nat), Fl w wr base p O S off bs f → off ≤ f → (∀ m, f ≤ m → m < off + n → (addG S.g off (bs.take (f - off)) m).isSome = true) → ∀ w', Below wr.heap.size wr w' → BPost (.tuple #[]) base p O ⟨S.rd, S.hi, S.fi, S.en, addG S.g off bs⟩ w (.returned (.tuple #[])) w') := Lib.hid (by
    intro wr f hF hof hs w' hB
    obtain ⟨⟨O', hb1, hb2⟩, hk⟩ := hF
    rw [addG_full S.g hof (by rw [hlen]; exact hs)] at hb1
    exact ⟨rfl, O', hb1.below hB, hk.trans (Kept.of_below hB _), hb2⟩)
  have HR := Lib.hid hr
  have HL := Lib.hid hlen
  clear h hok hr hst
  obtain ⟨E, hE⟩ : ∃ E, E = off + n := ⟨_, rfl⟩
  have hEz : (off : Int) + (n : Int) = (E : Int) := by omega
  have hEb : E ≤ 1099511630336 := by omega
  have HE := Lib.hid hE
  have hn1 : n ≤ 1099511630336 := by omega
  have ho1 : off ≤ 1099511630336 := by omega
  rw [← hE] at h2
  obtain ⟨f0, hf0⟩ : ∃ f0, f0 = max off S.rd := ⟨_, rfl⟩
  rw [← hf0] at HFL
  have hf1 : off ≤ f0 := by omega
  have hf2 : S.rd ≤ f0 := by omega
  have hmz : (if off < S.rd then (S.rd : Int) else (off : Int)) = (f0 : Int) := by split <;> omega
  clear hE hf0
  go_enter Try.func39, Try.ntmps39
  go_wp2
  go_loopg [7] (E - f0) (fun kx s7 wr => ∃ f : Nat, s7 = .int .u64 f ∧ off ≤ f ∧ S.rd ≤ f ∧ E - f ≤ kx ∧ Hid (Fl w wr base p O S off bs f))
  case atStart => exact ⟨f0, rfl, hf1, hf2, Nat.le_refl _, HFL⟩
  case round =>
    clear HFL hc0
    obtain ⟨f, rfl, hof, hrf, hkx, hF⟩ := hrel
    obtain ⟨⟨O', ⟨ps, vs, vw, l, W, hO', hc⟩, hOO⟩, hk⟩ := hF.out
    have h4 := hc.c4
    have hG := Lib.hid (gap_any' base ps 2048 vs l wr hc.set_ (by have := hc.pm.len; omega) hc.pm.gd f E)
    rcases gap_cases hc.pm.gd f E with ⟨hV, hall⟩ | ⟨a, e, hV, hfa, hae, heE, hall, hnone⟩
    · rw [hV] at hG
      have hD := Lib.hid (HEND.out wr f hF.out hof (fun m h1 h2 => by rw [← hc.pm.has m (by simp only; omega)]; exact hall m h1 (by have := HE.out; omega)))
      clear hall hV hc hk hF
      go_wp2_with (go_at_call 54; refine hG.out.mono ?_; rintro e w2 ⟨rfl, hB2⟩)
      go_end0
      exact hD.out _ (hB2.alloc hB2.size _)
    · rw [hV] at hG
      have hCW := Lib.hid hc
      have hgl := addG_glue S.g hof hfa (Nat.le_of_lt hae) (by rw [hlen]; have := HE.out; omega : e ≤ off + bs.length) (fun m h1 h3 => by rw [← hc.pm.has m (by simp only; omega)]; exact hall m h1 h3)
      have hno : ∀ m, a ≤ m → m < e → addG S.g off (bs.take (f - off)) m = none := fun m h1 h3 => by
        have := hnone m h1 h3
        rw [hc.pm.has m (by simp only; omega)] at this
        simp only at this
        cases hq : addG S.g off (bs.take (f - off)) m with
        | none => rfl
        | some x => rw [hq] at this; cases this
      have hn0 : 0 < n := by have := HE.out; omega
      obtain ⟨ab, ao, rfl, _, _⟩ := HR.out.1.2.2 hn0
      have hlz : (a : Int) - (off : Int) = ((a - off : Nat) : Int) := by omega
      have hhz : (e : Int) - (off : Int) = ((e - off : Nat) : Int) := by omega
      have hle : a - off < e - off := by omega
      have hen : e - off ≤ n := by have := HE.out; omega
      have hde : a + (e - off - (a - off)) = e := by omega
      obtain ⟨lo, hlo⟩ : ∃ lo, a - off = lo := ⟨_, rfl⟩
      obtain ⟨hi, hhi⟩ : ∃ hi, e - off = hi := ⟨_, rfl⟩
      rw [hlo] at hlz hle hgl hde
      rw [hhi] at hhz hle hen hgl hde
      have hrow : Hid (∀ X, Below wr.heap.size wr X → RdP X (fun b => ¬ O' b) (some ⟨ab, ao + lo, none⟩) (hi - lo) ((bs.take hi).drop lo)) := Lib.hid (fun X kX => by
        have h1 := ((HR.out.cutTo hen).cutFrom (c := c) (k := lo) (by omega) (by omega))
        have e1 : cutA (some ⟨ab, ao, none⟩) c lo = some ⟨ab, ao + lo, none⟩ := by
          unfold cutA
          rw [if_neg (by omega), Option.map_some, addr_add]
        rw [e1] at h1
        have h2 := h1.mono (P' := fun b => ¬ O' b ∧ ¬ O b) fun b hb hnb => ⟨fun h' => (hOO b h').elim hnb (fun h => by omega), hnb⟩
        exact ((h2.kept hk (fun b hb => hb.2)).kept (Kept.of_below kX O') (fun b hb => hb.1)).mono fun b _ hb => hb.1)
      have HLAY : Hid (∀ X, Below wr.heap.size wr X → Calls Try.prog 59 #[.pointer (some ⟨p, 0, none⟩), .int .u64 a, .slice (some ⟨ab, ao + lo, none⟩) (hi - lo) (c - lo)] X (BPost (.tuple #[]) base p O' ⟨S.rd, S.hi, S.fi, S.en, addG S.g off (bs.take hi)⟩ X)) := Lib.hid (fun X kX => by
        have := lay_any base p O' ⟨S.rd, S.hi, S.fi, S.en, addG S.g off (bs.take (f - off))⟩ a (some ⟨ab, ao + lo, none⟩) (hi - lo) (c - lo) _ X ((show Bf wr base p O' _ from ⟨ps, vs, vw, l, W, hO', hc⟩).below kX) (Nat.le_trans hb (Nat.le_trans hk.size kX.size)) hrd (hrow.out X kX) (by omega) (by simp only; omega) (by simp only; omega) (fun m h1 h3 => hno m h1 (by omega))
        rw [hgl] at this
        exact this)
      have HNX : Hid (∀ X w4 e', Below wr.heap.size wr X → BPost (.tuple #[]) base p O' ⟨S.rd, S.hi, S.fi, S.en, addG S.g off (bs.take hi)⟩ X e' w4 → Fl w w4 base p O S off bs e ∧ Kept O' X w4) := Lib.hid (fun X w4 e' kX hP => by
        obtain ⟨_, O2, hB, hK, hO2⟩ := hP
        refine ⟨⟨⟨O2, by rw [show e - off = hi from hhi]; exact hB, fun j hj => ?_⟩, ?_⟩, hK⟩
        · rcases hO2 j hj with h | h
          · exact hOO j h
          · exact .inr (Nat.le_trans hk.size (Nat.le_trans kX.size h))
        · exact (hk.trans' (Kept.of_below kX O') fun j hj => hOO j hj).trans' hK fun j hj => hOO j hj)
      have HOL : Hid (∀ b, O' b → b < wr.heap.size) := Lib.hid (fun b hb => (hc.lt b (by rw [← hO']; exact hb)).2)
      clear hall hnone hV hc hk hF hgl hno hrow hlo hhi
      go_wp2_with (go_at_call 54; refine hG.out.mono ?_; rintro e w2 ⟨rfl, hB2⟩)
      obtain ⟨g8, hg8⟩ : ∃ g8, w2.heap.size = g8 := ⟨_, rfl⟩
      have hAg : At (w2.alloc (.cells #[.int .u64 a, .int .u64 e] 99)) g8 99 [.int .u64 a, .int .u64 e] := hg8 ▸ At.new w2 99 [.int .u64 a, .int .u64 e]
      have hBX : Below wr.heap.size wr (w2.alloc (.cells #[.int .u64 a, .int .u64 e] 99)) := hB2.alloc hB2.size _
      have hgw : wr.heap.size ≤ g8 := hg8 ▸ hB2.size
      rw [hg8]
      generalize (w2.alloc (.cells #[.int .u64 a, .int .u64 e] 99)) = X0 at *
      have hwlo : IntKind.u64.wrap (lo : Int) = (lo : Int) := by rw [IntKind.wrap_u64]; omega
      have hwhi : IntKind.u64.wrap (hi : Int) = (hi : Int) := by rw [IntKind.wrap_u64]; omega
      have hloz : (lo : Int) ≤ (hi : Int) := by omega
      have hhiz : (hi : Int) ≤ (c : Int) := by omega
      have hcl : ¬ c = lo := by omega
      have d0 : X0.cell? ⟨g8, 0, none⟩ = some (.int .u64 a) := by rw [hAg.cell]; rfl
      have d1 : X0.cell? ⟨g8, 1, none⟩ = some (.int .u64 e) := by rw [hAg.cell]; rfl
      go_still_tail 13, (by kernel_rfl)
      change wpList _ _ _ _ _ (World.drew X0)
      have hAY : At X0.drew g8 99 [.int .u64 a, .int .u64 e] := hAg.drew
      have HBY : Hid (Below wr.heap.size wr X0.drew) := Lib.hid hBX.drew
      clear hAg hBX hG hB2 hg8 d0 d1
      generalize World.drew X0 = Y at hAY HBY ⊢
      have hgO : Hid (¬ O' g8) := Lib.hid (fun h => by have := HOL.out g8 h; omega)
      have hHAY := Lib.hid hAY
      clear hAY
      have HC4 := Lib.hid (HLAY.out Y HBY.out)
      have HN4 := Lib.hid (fun w4 e' => HNX.out Y w4 e' HBY.out)
      clear HLAY HNX
      go_wp2_with (go_at_call 59; refine HC4.out.mono ?_; intro e' w4 hP; obtain ⟨q1, q2⟩ := HN4.out w4 e' hP; have HQ := Lib.hid q1; have d2 : w4.cell? ⟨g8, 1, none⟩ = some (.int .u64 e) := (by rw [(hHAY.out.kept q2 hgO.out).cell]; rfl); obtain ⟨rfl, _⟩ := hP; clear q1 q2)
      go_roundg (E - e)
      case measure => omega
      case rel => exact ⟨e, rfl, by omega, by omega, Nat.le_refl _, HQ⟩
end
section
set_option linter.unusedVariables false
set_option linter.unusedSimpArgs false
open Go.RowKit
section
variable {w : World} {base p : Nat} {O : Nat → Prop} {S : BS}
theorem Bc.put {ps : Nat} {vs vw : Value} {l : RL} {W : List Int} {S' : BS} (h : Bc w base p ps vs vw l W S) (j : Nat) (u : Value) (hr : S'.rd = S.rd) (hg : S'.g = S.g)
    (he : ([.int .u64 S.rd, .int .u64 S.hi, .int .u64 S.fi, .bool S.en, .pointer (some ⟨ps, 0, none⟩), vw] : List Value).set j u = [.int .u64 S'.rd, .int .u64 S'.hi, .int .u64 S'.fi, .bool S'.en, .pointer (some ⟨ps, 0, none⟩), vw]) :
    Bc (w.setCell ⟨p, j, none⟩ u) base p ps vs vw l W S' := by
  have k : Kept (fun b => b = p) w (w.setCell ⟨p, j, none⟩ u) := (Kept.refl (fun b => b = p) w).setCell (p := ⟨p, j, none⟩) (.inl rfl) u
  exact ⟨he ▸ h.at_.set j u, h.set_.kept k (fun e => h.n1 e.symm) fun j hj e => h.n2 (by rw [hj, e]), h.own.kept k fun j hj e => h.n3 (by rw [hj, e]), h.n1, h.n2, h.n3, h.n4, h.n5, h.bp, by rw [hr, hg]; exact h.pm⟩
theorem Bf.puthi (h : Bf w base p O S) (x : Nat) : Bf (w.setCell ⟨p, 1, none⟩ (.int .u64 x)) base p O ⟨S.rd, x, S.fi, S.en, S.g⟩ := by
  obtain ⟨ps, vs, vw, l, W, e, h⟩ := h
  exact ⟨ps, vs, vw, l, W, e, h.put 1 _ rfl rfl rfl⟩
theorem Bf.putfi (h : Bf w base p O S) (x : Nat) : Bf (w.setCell ⟨p, 2, none⟩ (.int .u64 x)) base p O ⟨S.rd, S.hi, x, S.en, S.g⟩ := by
  obtain ⟨ps, vs, vw, l, W, e, h⟩ := h
  exact ⟨ps, vs, vw, l, W, e, h.put 2 _ rfl rfl rfl⟩
theorem Bf.puten (h : Bf w base p O S) (x : Bool) : Bf (w.setCell ⟨p, 3, none⟩ (.bool x)) base p O ⟨S.rd, S.hi, S.fi, x, S.g⟩ := by
  obtain ⟨ps, vs, vw, l, W, e, h⟩ := h
  exact ⟨ps, vs, vw, l, W, e, h.put 3 _ rfl rfl rfl⟩
theorem Bf.at_ (h : Bf w base p O S) : ∃ u v, At w p 74 [.int .u64 S.rd, .int .u64 S.hi, .int .u64 S.fi, .bool S.en, u, v] := by
  obtain ⟨ps, vs, vw, l, W, e, h⟩ := h
  exact ⟨_, _, h.at_⟩
theorem Bf.own_ (h : Bf w base p O S) : O p := by
  obtain ⟨ps, vs, vw, l, W, rfl, h⟩ := h
  exact .inl rfl
end
/-- What Add makes of a buffer. -/
def addR (S : BS) (off : Nat) (bs : List Int) (fin : Bool) : BS := if addE S off bs.length fin = 0 then addS S off bs fin else S
set_option maxHeartbeats 8000000 in
set_option maxRecDepth 100000 in
theorem iadd_any (base p : Nat) (O : Nat → Prop) (S : BS) (off : Nat) (A : Option Addr) (n c : Nat) (bs : List Int) (fin : Bool) (w : World) (h : Bf w base p O S) (hok : S.ok) (hb : base ≤ w.heap.size)
    (hr : RdP w (fun b => ¬ O b) A n bs) (hnc : n ≤ c) (ho : off < 18446744073709551616) (hn : n < 9223372036854775808) :
    Calls Try.prog 27 #[.pointer (some ⟨p, 0, none⟩), .int .u64 off, .slice A n c, .bool fin] w (BPost (.int .i64 (addE S off n fin)) base p O (addR S off bs fin) w) := by
  have hlen := hr.len
  have hEQ : addE S off n fin = addE S off bs.length fin := by rw [hlen]
  have NO : addE S off n fin ≠ 0 → ∀ d, BPost (.int .i64 (addE S off n fin)) base p O (addR S off bs fin) w (.returned (.int .i64 (addE S off n fin))) (w.drewN d) := fun hne d => by
    unfold addR
    rw [if_neg (by rw [← hEQ]; exact hne)]
    exact ⟨rfl, O, h.drewN d, (Kept.refl _ _).drewN d, fun j hj => .inl hj⟩
  by_cases c1 : 1099511627776 < off
  · have he : addE S off n fin = 1 := by unfold addE; rw [if_pos (.inl c1)]
    have HN := Lib.hid (NO (by rw [he]; decide) 0)
    rw [he] at HN ⊢
    have hcz : (1099511627776 : Int) < (off : Int) := by omega
    clear h hok hr hEQ NO he
    go_enter Try.func27, Try.ntmps27
    go_wp2
    go_ret
    exact HN.out
  by_cases c2 : 512 < n
  · have he : addE S off n fin = 1 := by unfold addE; rw [if_pos (.inr c2)]
    have HN := Lib.hid (NO (by rw [he]; decide) 0)
    rw [he] at HN ⊢
    have hcz : ¬ (1099511627776 : Int) < (off : Int) := by omega
    have hcn : (512 : Int) < (n : Int) := by omega
    clear h hok hr hEQ NO he
    go_enter Try.func27, Try.ntmps27
    go_wp2
    go_ret
    exact HN.out
  have hcz : ¬ (1099511627776 : Int) < (off : Int) := by omega
  have hcn : ¬ (512 : Int) < (n : Int) := by omega
  have ho' : off ≤ 1099511627776 := by omega
  have hn' : n ≤ 512 := by omega
  have hE1 : addE S off n fin = if agB S (off + n) fin = true then 30 else if S.rd + 2048 < off + n then 23 else 0 := by
    unfold addE agB
    rw [if_neg (by omega)]
  obtain ⟨E, hE⟩ : ∃ E, E = off + n := ⟨_, rfl⟩
  rw [← hE] at hE1
  clear ho hn c1 c2
  have hEz : (off : Int) + (n : Int) = (E : Int) := by omega
  have hEb : E ≤ 1099511630336 := by omega
  have HAG := Lib.hid (iag_any h E fin)
  have HE := Lib.hid hE
  clear hE
  by_cases c3 : agB S E fin = true
  · rw [if_pos c3] at hE1
    have HN := Lib.hid (NO (by rw [hE1]; decide) 0)
    rw [hE1] at HN ⊢
    rw [c3] at HAG
    clear h hok hr hEQ NO hE1 c3
    go_enter Try.func27, Try.ntmps27
    go_wp2_with (go_at_call 38; (with_reducible refine HAG.out.mono ?_); rintro e w2 ⟨rfl, rfl⟩)
    go_ret
    exact HN.out
  rw [if_neg c3] at hE1
  have c3' : agB S E fin = false := by simpa using c3
  rw [c3'] at HAG
  have hrd : S.rd ≤ 1099511628288 := by have := hok.rh; have := hok.hm; omega
  obtain ⟨u4, u5, hat⟩ := h.at_
  have h0 : w.cell? ⟨p, 0, none⟩ = some (.int .u64 S.rd) := by rw [hat.cell]; rfl
  by_cases c4 : S.rd + 2048 < E
  · rw [if_pos c4] at hE1
    have HN := Lib.hid (NO (by rw [hE1]; decide) 0)
    rw [hE1] at HN ⊢
    have hc4z : (S.rd : Int) + 2048 < (E : Int) := by omega
    clear h hok hr hEQ NO hE1 c3 c3' hat
    go_enter Try.func27, Try.ntmps27
    go_wp2_with (go_at_call 38; (with_reducible refine HAG.out.mono ?_); rintro e w2 ⟨rfl, rfl⟩)
    go_ret
    exact HN.out
  rw [if_neg c4] at hE1
  have hc4z : ¬ (S.rd : Int) + 2048 < (E : Int) := by omega
  have hR : addR S off bs fin = addS S off bs fin := by unfold addR; rw [if_pos (by rw [← hEQ]; exact hE1)]
  rw [hR, hE1]
  have HFI := Lib.hid (fill_any base p O S off A n c bs w h hok hb hr hnc (by have := HE.out; omega))
  have hhi : S.hi ≤ 1099511628288 := hok.hm
  have HS : Hid (addS S off bs fin = ⟨S.rd, max S.hi E, if fin then E else S.fi, S.en || fin, addG S.g off bs⟩) := Lib.hid (by unfold addS; rw [hlen, ← HE.out])
  clear NO hE1 c3 c3' hR hEQ hr hok hat
  have HPO : Hid (O p) := Lib.hid h.own_
  clear h
  rcases Nat.lt_or_ge S.hi E with hm | hm
  · have hmx : max S.hi E = E := by omega
    rw [hmx] at HS
    have hmz : (S.hi : Int) < (E : Int) := by omega
    clear hmx hm
    cases fin
    · have HS2 : Hid (addS S off bs false = ⟨S.rd, E, S.fi, S.en, addG S.g off bs⟩) := Lib.hid (by rw [HS.out]; simp)
      go_enter Try.func27, Try.ntmps27
      go_wp2_with (first | (go_at_call 38; (with_reducible refine HAG.out.mono ?_); rintro e w1 ⟨rfl, rfl⟩) | (go_at_call 39; (with_reducible refine HFI.out.mono ?_); rintro e w2 ⟨rfl, O2, hB, hK, hO2⟩; obtain ⟨u6, u7, ha2⟩ := hB.at_; have d1 : w2.cell? ⟨p, 1, none⟩ = some (.int .u64 S.hi) := (by rw [ha2.cell]; rfl); have d2 : w2.cell? ⟨p, 2, none⟩ = some (.int .u64 S.fi) := (by rw [ha2.cell]; rfl); have d3 : w2.cell? ⟨p, 3, none⟩ = some (.bool S.en) := (by rw [ha2.cell]; rfl); have f1 := ha2.frozen 1; have f2 := ha2.frozen 2; have f3 := ha2.frozen 3; have HB := Lib.hid hB; have HK := Lib.hid hK; have HO2 := Lib.hid hO2; clear hB hK hO2 ha2))
      go_ret
      have hb2 := (HB.out.puthi E)
      refine ⟨rfl, O2, ?_, (HK.out.setCell (p := ⟨p, 1, none⟩) (.inl HPO.out) (.int .u64 E)), HO2.out⟩
      rw [HS2.out]
      exact hb2
    · have HS2 : Hid (addS S off bs true = ⟨S.rd, E, E, true, addG S.g off bs⟩) := Lib.hid (by rw [HS.out]; simp)
      go_enter Try.func27, Try.ntmps27
      go_wp2_with (first | (go_at_call 38; (with_reducible refine HAG.out.mono ?_); rintro e w1 ⟨rfl, rfl⟩) | (go_at_call 39; (with_reducible refine HFI.out.mono ?_); rintro e w2 ⟨rfl, O2, hB, hK, hO2⟩; obtain ⟨u6, u7, ha2⟩ := hB.at_; have d1 : w2.cell? ⟨p, 1, none⟩ = some (.int .u64 S.hi) := (by rw [ha2.cell]; rfl); have d2 : w2.cell? ⟨p, 2, none⟩ = some (.int .u64 S.fi) := (by rw [ha2.cell]; rfl); have d3 : w2.cell? ⟨p, 3, none⟩ = some (.bool S.en) := (by rw [ha2.cell]; rfl); have f1 := ha2.frozen 1; have f2 := ha2.frozen 2; have f3 := ha2.frozen 3; have HB := Lib.hid hB; have HK := Lib.hid hK; have HO2 := Lib.hid hO2; clear hB hK hO2 ha2))
      go_ret
      have hb2 := (((HB.out.puthi E).putfi E).puten true)
      refine ⟨rfl, O2, ?_, (((HK.out.setCell (p := ⟨p, 1, none⟩) (.inl HPO.out) (.int .u64 E)).setCell (p := ⟨p, 2, none⟩) (.inl HPO.out) (.int .u64 E)).setCell (p := ⟨p, 3, none⟩) (.inl HPO.out) (.bool true)), HO2.out⟩
      rw [HS2.out]
      exact hb2
  · have hmx : max S.hi E = S.hi := by omega
    rw [hmx] at HS
    have hmz : ¬ (S.hi : Int) < (E : Int) := by omega
    clear hmx
    cases fin
    · have HS2 : Hid (addS S off bs false = ⟨S.rd, S.hi, S.fi, S.en, addG S.g off bs⟩) := Lib.hid (by rw [HS.out]; simp)
      go_enter Try.func27, Try.ntmps27
      go_wp2_with (first | (go_at_call 38; (with_reducible refine HAG.out.mono ?_); rintro e w1 ⟨rfl, rfl⟩) | (go_at_call 39; (with_reducible refine HFI.out.mono ?_); rintro e w2 ⟨rfl, O2, hB, hK, hO2⟩; obtain ⟨u6, u7, ha2⟩ := hB.at_; have d1 : w2.cell? ⟨p, 1, none⟩ = some (.int .u64 S.hi) := (by rw [ha2.cell]; rfl); have d2 : w2.cell? ⟨p, 2, none⟩ = some (.int .u64 S.fi) := (by rw [ha2.cell]; rfl); have d3 : w2.cell? ⟨p, 3, none⟩ = some (.bool S.en) := (by rw [ha2.cell]; rfl); have f1 := ha2.frozen 1; have f2 := ha2.frozen 2; have f3 := ha2.frozen 3; have HB := Lib.hid hB; have HK := Lib.hid hK; have HO2 := Lib.hid hO2; clear hB hK hO2 ha2))
      go_ret
      have hb2 := (HB.out.puthi S.hi)
      refine ⟨rfl, O2, ?_, (HK.out.setCell (p := ⟨p, 1, none⟩) (.inl HPO.out) (.int .u64 S.hi)), HO2.out⟩
      rw [HS2.out]
      exact hb2
    · have HS2 : Hid (addS S off bs true = ⟨S.rd, S.hi, E, true, addG S.g off bs⟩) := Lib.hid (by rw [HS.out]; simp)
      go_enter Try.func27, Try.ntmps27
      go_wp2_with (first | (go_at_call 38; (with_reducible refine HAG.out.mono ?_); rintro e w1 ⟨rfl, rfl⟩) | (go_at_call 39; (with_reducible refine HFI.out.mono ?_); rintro e w2 ⟨rfl, O2, hB, hK, hO2⟩; obtain ⟨u6, u7, ha2⟩ := hB.at_; have d1 : w2.cell? ⟨p, 1, none⟩ = some (.int .u64 S.hi) := (by rw [ha2.cell]; rfl); have d2 : w2.cell? ⟨p, 2, none⟩ = some (.int .u64 S.fi) := (by rw [ha2.cell]; rfl); have d3 : w2.cell? ⟨p, 3, none⟩ = some (.bool S.en) := (by rw [ha2.cell]; rfl); have f1 := ha2.frozen 1; have f2 := ha2.frozen 2; have f3 := ha2.frozen 3; have HB := Lib.hid hB; have HK := Lib.hid hK; have HO2 := Lib.hid hO2; clear hB hK hO2 ha2))
      go_ret
      have hb2 := (((HB.out.puthi S.hi).putfi E).puten true)
      refine ⟨rfl, O2, ?_, (((HK.out.setCell (p := ⟨p, 1, none⟩) (.inl HPO.out) (.int .u64 S.hi)).setCell (p := ⟨p, 2, none⟩) (.inl HPO.out) (.int .u64 E)).setCell (p := ⟨p, 3, none⟩) (.inl HPO.out) (.bool true)), HO2.out⟩
      rw [HS2.out]
      exact hb2
end
end Go.Proofs.Ytahalbmcijbbmaa
