/-
  An Ack's ranges as they are read (frame.readAck): numbers that wrap round and all.
-/
import Derived.Test.YtcobcgbpmkpljaaRd2
namespace Go.Proofs.Ytcobcgbpmkpljaa
set_option linter.unusedVariables false
set_option linter.unusedSimpArgs false
open Go.RowKit
/-- A number of 64 bits. -/
def W64 (x : Int) : Int := x % 18446744073709551616
theorem W64_bd (x : Int) : 0 ≤ W64 x ∧ W64 x < 18446744073709551616 := by unfold W64; omega
theorem wrap_u64 (x : Int) : IntKind.u64.wrap x = W64 x := by rw [IntKind.wrap_u64]; rfl
def ackLoop : Nat → St → Int → RS → RS × St
  | 0, s, lo, acc => (acc, s)
  | n + 1, s, lo, acc => ackLoop n (varN (varN s)) (W64 (W64 (lo - varR s - 1) - 1 - varR (varN s))) ((W64 (W64 (lo - varR s - 1) - 1 - varR (varN s)), W64 (lo - varR s - 1)) :: acc)
def ackTop (s : St) : Int × Int := (W64 (varR s - varR (varN (varN (varN s)))), varR s + 1)
/-- The ranges, the delay, what is left. -/
def ackR (s : St) : RS × Int × St :=
  if 16 ≤ varR (varN (varN s)) then ([], varR (varN s), varN (varN (varN (varN s))))
  else ((ackLoop (varR (varN (varN s))).toNat (varN (varN (varN (varN s)))) (ackTop s).1 [ackTop s]).1, varR (varN s), (ackLoop (varR (varN (varN s))).toNat (varN (varN (varN (varN s)))) (ackTop s).1 [ackTop s]).2)
def AckPost (w : World) (p : Nat) (T : TypeId) (P : Nat → Prop) (s : St) (e : Ending) (w' : World) : Prop :=
  ∃ r : Sl, e = .returned (.tuple #[.slice r.A r.n r.c, .int .u64 (ackR s).2.1]) ∧ InR w' (fun b => w.heap.size ≤ b) r (ackR s).1 ∧ Rdr w' p T P (ackR s).2.2 ∧ Kept (· = p) w w'
/-- What the loop keeps. -/
structure AckL (w : World) (p : Nat) (T : TypeId) (P : Nat → Prop) (g8 B : Nat) (tot : RS × St) (j : Nat) (v : Value) (wr : World) (s : St) (lo hi : Int) (rs : RS) : Prop where
  rd : Rdr wr p T (fun b => P b ∧ b < w.heap.size) s
  own : OwnR wr (g8 + 1) v rs
  cl : At wr g8 60 [.int .u64 lo, .int .u64 hi]
  kp : Kept (· = p) w wr
  eq : tot = ackLoop (B - j) s lo rs.reverse
  len : rs.length = j + 1
  sz : g8 < wr.heap.size
  l0 : 0 ≤ lo
  l1 : lo < 18446744073709551616
theorem Rdr.byt2 {w : World} {p : Nat} {T : TypeId} {P : Nat → Prop} {s : St} (h : Rdr w p T P s) : 0 ≤ varR s ∧ varR s ≤ 4611686018427387903 := varR_bd s h.byt
theorem ackLoop_succ (B j : Nat) (hj : j < B) (s : St) (lo : Int) (rs : RS) (lo' hi' : Int) (h1 : W64 (lo - varR s - 1) = hi') (h2 : W64 (hi' - 1 - varR (varN s)) = lo') : ackLoop (B - j) s lo rs.reverse = ackLoop (B - (j + 1)) (varN (varN s)) lo' (rs ++ [(lo', hi')]).reverse := by
  rw [show B - j = (B - (j + 1)) + 1 by omega, ackLoop, h1, h2, List.reverse_append]
  rfl
theorem OwnR.rev {w : World} {base : Nat} {A : Option Addr} {n c : Nat} {rs : RS} (h : OwnR w base (.slice A n c) rs) (h1 : 1 ≤ rs.length) :
    ∃ g, A = some ⟨g, 0, none⟩ ∧ RevAt w g rs 0 w ∧ base ≤ g ∧ rs.length = n ∧ n ≤ c ∧ c ≤ maxLen ∧ g < w.heap.size := by
  rcases h.1.2 with ⟨h0, h0'⟩ | ⟨g, cap, cur, e, hb, hg, k1, k2, k3, k4⟩
  · omega
  · injection e with e1 e2 e3
    subst e1; subst e3
    have hlt : g < w.heap.size := by
      rcases Nat.lt_or_ge g w.heap.size with hlt | hge
      · exact hlt
      · rw [Array.getElem?_eq_none hge] at hg; cases hg
    refine ⟨g, rfl, ⟨Kept.refl _ _, ⟨cur.toList, by unfold At; simpa using hg⟩, fun i r hi hr => ?_⟩, hb, e2.symm, by omega, k2, hlt⟩
    rw [revAt_0 _ _ hi] at hr
    have hq := rsC_get rs i r hr
    rw [← k4, List.getElem?_take_of_lt (by omega), List.getElem?_take_of_lt (by omega)] at hq
    rw [cell_of_row w g _ cur _ (0, 0) hg, cell_of_row w g _ cur _ (0, 0) hg]
    simpa using hq
theorem RevAt.inR {w wr : World} {g : Nat} {rs : RS} {t n c : Nat} {P : Nat → Prop} (h : RevAt w g rs t wr) (hn : rs.length = n) (ht : n ≤ 2 * t + 1) (hw : Wd rs) (hnc : n ≤ c) (hc : c ≤ maxLen) (hg : g < wr.heap.size) (hP : P g) : InR wr P ⟨some ⟨g, 0, none⟩, n, c⟩ rs.reverse := by
  refine ⟨⟨by rw [List.length_reverse, hn], fun r hr => hw r (by simpa using hr), fun _ => ⟨g, 0, rfl, hg, hP, fun i r hr => ?_⟩⟩, hnc, hc, fun e => by cases e⟩
  have hi := (List.getElem?_eq_some_iff.1 hr).1
  rw [List.length_reverse] at hi
  rw [Nat.zero_add]
  exact h.ce i r hi (by rw [revAt_end rs t (by omega) i hi]; exact hr)
set_option maxRecDepth 100000 in
set_option maxHeartbeats 2000000 in
theorem rack_any (p : Nat) (T : TypeId) (P : Nat → Prop) (s : St) (w : World) (hr : Rdr w p T P s) (hP : ∀ b, P b → b ≠ p) :
    Calls Try.prog 69 #[.pointer (some ⟨p, 0, none⟩)] w (AckPost w p T P s) := by
  have hpl : p < w.heap.size := by obtain ⟨_, _, _, h, _⟩ := hr; exact h.lt
  have hr0 := hr.mono (P' := fun b => P b ∧ b < w.heap.size) (fun b hb hP => ⟨hP, hb⟩)
  have hP' : ∀ b, (P b ∧ b < w.heap.size) → b ≠ p := fun b hb => hP b hb.1
  clear hr hP
  go_enter Try.func69, Try.ntmps69
  go_wp2_with fail
  refine (var_any p T _ s w hr0 hP').mono ?_
  rintro e w1 ⟨rfl, hr1, hk1⟩
  have hb0 := hr0.byt2
  go_wp2_with fail
  refine (var_any p T _ _ w1 hr1 hP').mono ?_
  rintro e w2 ⟨rfl, hr2, hk2⟩
  have hb1 := hr1.byt2
  go_wp2_with fail
  refine (var_any p T _ _ w2 hr2 hP').mono ?_
  rintro e w3 ⟨rfl, hr3, hk3⟩
  have hb2 := hr2.byt2
  go_wp2_with fail
  refine (var_any p T _ _ w3 hr3 hP').mono ?_
  rintro e w4 ⟨rfl, hr4, hk4⟩
  have hb3 := hr3.byt2
  have hk := ((hk1.trans hk2).trans hk3).trans hk4
  clear hr0 hr1 hr2 hr3 hk1 hk2 hk3 hk4
  obtain ⟨x0, hx0⟩ : ∃ x, varR s = x := ⟨_, rfl⟩
  obtain ⟨x1, hx1⟩ : ∃ x, varR (varN s) = x := ⟨_, rfl⟩
  obtain ⟨x2, hx2⟩ : ∃ x, varR (varN (varN s)) = x := ⟨_, rfl⟩
  obtain ⟨x3, hx3⟩ : ∃ x, varR (varN (varN (varN s))) = x := ⟨_, rfl⟩
  obtain ⟨s4, hs4⟩ : ∃ x, varN (varN (varN (varN s))) = x := ⟨_, rfl⟩
  have hE : ackR s = if 16 ≤ x2 then ([], x1, s4) else ((ackLoop x2.toNat s4 (W64 (x0 - x3)) [(W64 (x0 - x3), x0 + 1)]).1, x1, (ackLoop x2.toNat s4 (W64 (x0 - x3)) [(W64 (x0 - x3), x0 + 1)]).2) := by
    unfold ackR ackTop
    rw [hx0, hx1, hx2, hx3, hs4]
  rw [hx0] at hb0
  rw [hx1] at hb1
  rw [hx2] at hb2
  rw [hx3] at hb3
  rw [hs4] at hr4
  try rw [hx0]
  try rw [hx1]
  try rw [hx2]
  try rw [hx3]
  clear hx0 hx1 hx2 hx3 hs4
  have HE := Lib.hid hE
  clear hE
  by_cases h16 : 16 ≤ x2
  · have HE2 := Lib.hid (show ackR s = ([], x1, s4) by rw [HE.out, if_pos h16])
    have hd : decide (16 ≤ x2) = true := by simpa using h16
    go_wp2_with fail
    go_ret2
    refine ⟨.nil, ?_, ?_, ?_, hk⟩
    · rw [HE2.out]; rfl
    · rw [HE2.out]; exact InR.nil_ _ _
    · rw [HE2.out]; exact hr4.mono (fun b _ hb => hb.1)
  · obtain ⟨B, hB0⟩ : ∃ B : Nat, x2 = (B : Int) := ⟨x2.toNat, by omega⟩
    subst hB0
    have hB : B < 16 := by omega
    have hd : decide (16 ≤ (B : Int)) = false := by simp; omega
    obtain ⟨lo, hlo⟩ : ∃ x, W64 (x0 - x3) = x := ⟨_, rfl⟩
    have hlb := W64_bd (x0 - x3)
    have HE2 := Lib.hid (show ackR s = ((ackLoop B s4 lo [(lo, x0 + 1)]).1, x1, (ackLoop B s4 lo [(lo, x0 + 1)]).2) by rw [HE.out, if_neg h16, hlo]; rfl)
    rw [hlo] at hlb
    have ew : IntKind.u64.wrap (x0 - x3) = lo := by rw [wrap_u64, hlo]
    have hsz := hk.size
    clear h16 hlo HE
    go_wp2_with fail
    obtain ⟨g8, hg8⟩ : ∃ g8, w4.heap.size = g8 := ⟨_, rfl⟩
    obtain ⟨tot, htot⟩ : ∃ x, ackLoop B s4 lo [(lo, x0 + 1)] = x := ⟨_, rfl⟩
    rw [htot] at HE2
    have hwd0 : Wd [(lo, x0 + 1)] := fun r hr => by simp at hr; subst hr; exact ⟨hlb.1, hlb.2, by show (0:Int) ≤ x0 + 1; omega, by show x0 + 1 < _; omega⟩
    have HI : Hid (AckL w p T P g8 B tot 0 (.slice (some ⟨g8 + 1, 0, none⟩) 1 1) ((w4.alloc (.cells #[.int .u64 lo, .int .u64 (x0 + 1)] 60)).alloc (.cells #[.int .u64 lo, .int .u64 (x0 + 1)] 60)) s4 lo (x0 + 1) [(lo, x0 + 1)]) := Lib.hid
      ⟨hr4.kept (((Kept.refl (fun _ => False) w4).alloc _).alloc _) (fun h => h) (fun _ _ h => h), OwnR.one _ _ _ _ _ (by simp [hg8]) (Nat.le_refl _) hwd0, (At.new_ _ [.int .u64 lo, .int .u64 (x0 + 1)] g8 hg8.symm).alloc _, (hk.alloc _).alloc _, by simpa using htot.symm, rfl, by simp; omega, hlb.1, hlb.2⟩
    have HS := Lib.hid hg8
    have hg8w : w.heap.size ≤ g8 := by omega
    rw [hg8]
    clear hr4 hwd0 ew htot hg8 hsz
    go_loopw [9, 33] (fun l i wr => ∃ (j : Nat) (A : Option Addr) (n c : Nat) (s : St) (lo hi : Int) (rs : RS), l = .slice A n c ∧ i = .int .u64 j ∧ j ≤ B ∧ Hid (AckL w p T P g8 B tot j (.slice A n c) wr s lo hi rs)) (fun _ i _ => B - (intOf i).toNat)
    case atStart => exact ⟨0, _, _, _, _, _, _, _, rfl, rfl, by omega, HI⟩
    case round =>
      clear HI hk
      obtain ⟨j, A, n, c, s', lo', hi', rs, rfl, rfl, hj, hat⟩ := hrel
      have hszr := hat.out.sz
      by_cases hlt : j < B
      · have hlti : (j : Int) < (B : Int) := by omega
        have hlen := hat.out.len
        go_wp2_with fail
        refine (var_any p T _ s' wr hat.out.rd hP').mono ?_
        rintro e w5 ⟨rfl, hr5, hk5⟩
        have hy0 := hat.out.rd.byt2
        go_wp2_with fail
        refine (var_any p T _ _ w5 hr5 hP').mono ?_
        rintro e w6 ⟨rfl, hr6, hk6⟩
        have hy1 := hr5.byt2
        have hk56 := hk5.trans hk6
        have A6 := hat.out.cl.kept hk56 (by omega)
        have O6 := hat.out.own.kept hk56 (fun i hi e => by have := (hat.out.own.block_lt i hi).1; omega)
        have K6 := hat.out.kp.trans hk56
        have hs6 := hk56.size
        have hl0 := hat.out.l0
        have hl1 := hat.out.l1
        obtain ⟨y0, hy0e⟩ : ∃ x, varR s' = x := ⟨_, rfl⟩
        obtain ⟨y1, hy1e⟩ : ∃ x, varR (varN s') = x := ⟨_, rfl⟩
        obtain ⟨z1, hz1⟩ : ∃ x, W64 (lo' - y0) = x := ⟨_, rfl⟩
        obtain ⟨hi2, hhi2⟩ : ∃ x, W64 (z1 - 1) = x := ⟨_, rfl⟩
        obtain ⟨z3, hz3⟩ : ∃ x, W64 (hi2 - 1) = x := ⟨_, rfl⟩
        obtain ⟨lo2, hlo2⟩ : ∃ x, W64 (z3 - y1) = x := ⟨_, rfl⟩
        have bz1 := W64_bd (lo' - y0)
        have bhi := W64_bd (z1 - 1)
        have bz3 := W64_bd (hi2 - 1)
        have blo := W64_bd (z3 - y1)
        have q1 : W64 (lo' - varR s' - 1) = hi2 := by rw [hy0e, ← hhi2, ← hz1]; unfold W64; omega
        have q2 : W64 (hi2 - 1 - varR (varN s')) = lo2 := by rw [hy1e, ← hlo2, ← hz3]; unfold W64; omega
        have HEQ := Lib.hid (hat.out.eq.trans (ackLoop_succ B j hlt s' lo' rs lo2 hi2 q1 q2))
        rw [hy0e] at hy0
        rw [hy1e] at hy1
        rw [hz1] at bz1
        rw [hhi2] at bhi
        rw [hz3] at bz3
        rw [hlo2] at blo
        have e1 : IntKind.u64.wrap (lo' - y0) = z1 := by rw [wrap_u64, hz1]
        have e2 : IntKind.u64.wrap (z1 - 1) = hi2 := by rw [wrap_u64, hhi2]
        have e3 : IntKind.u64.wrap (hi2 - 1) = z3 := by rw [wrap_u64, hz3]
        have e4 : IntKind.u64.wrap (z3 - y1) = lo2 := by rw [wrap_u64, hlo2]
        try rw [hy0e]
        try rw [hy1e]
        have c0 := A6.cell 0
        have c1 := A6.cell 1
        have f0 := A6.frozen 0
        have f1 := A6.frozen 1
        simp only [List.getElem?_cons_succ, List.getElem?_cons_zero] at c0 c1
        have KS : Kept (· = g8) w6 ((w6.setCell ⟨g8, 0, none⟩ (.int .u64 lo2)).setCell ⟨g8, 1, none⟩ (.int .u64 hi2)) := ((Kept.refl _ _).setAt 0 _).setAt 1 _
        have AS := (A6.set 0 (.int .u64 lo2)).set 1 (.int .u64 hi2)
        have hss : ((w6.setCell ⟨g8, 0, none⟩ (.int .u64 lo2)).setCell ⟨g8, 1, none⟩ (.int .u64 hi2)).heap.size = w6.heap.size := by simp [World.setCell]
        have OA := (O6.kept KS (fun i hi e => by have := (O6.block_lt i hi).1; omega)).kept ((Kept.refl (fun _ => False) ((w6.setCell ⟨g8, 0, none⟩ (.int .u64 lo2)).setCell ⟨g8, 1, none⟩ (.int .u64 hi2))).alloc (.cells #[.int .u64 lo2, .int .u64 hi2] 60)) (fun _ _ h => h)
        have CA := At.new_ (w := (w6.setCell ⟨g8, 0, none⟩ (.int .u64 lo2)).setCell ⟨g8, 1, none⟩ (.int .u64 hi2)) 60 [.int .u64 lo2, .int .u64 hi2] w6.heap.size hss.symm
        have A8 := AS.alloc (.cells #[.int .u64 lo2, .int .u64 hi2] 60)
        have R8 := (hr6.kept KS (by omega) (fun b hb e => by omega)).kept ((Kept.refl (fun _ => False) ((w6.setCell ⟨g8, 0, none⟩ (.int .u64 lo2)).setCell ⟨g8, 1, none⟩ (.int .u64 hi2))).alloc (.cells #[.int .u64 lo2, .int .u64 hi2] 60)) (fun h => h) (fun _ _ h => h)
        have K8 := (K6.trans' KS (fun j hj => .inr (by omega))).trans' ((Kept.refl (fun _ => False) ((w6.setCell ⟨g8, 0, none⟩ (.int .u64 lo2)).setCell ⟨g8, 1, none⟩ (.int .u64 hi2))).alloc (.cells #[.int .u64 lo2, .int .u64 hi2] 60)) (fun _ h => h.elim)
        have hwd : Wd [(lo2, hi2)] := fun r hr => by simp at hr; subst hr; exact ⟨blo.1, blo.2, bhi.1, bhi.2⟩
        have HZ := Lib.hid hss
        have HOA := Lib.hid OA
        have HCA := Lib.hid CA
        have HA8 := Lib.hid A8
        have HR8 := Lib.hid R8
        have HK8 := Lib.hid K8
        clear q1 q2 hy0e hy1e hz1 hhi2 hz3 hlo2 OA CA A8 R8 K8 AS KS hss A6 O6 K6 hr5 hr6 hk5 hk6 hk56 hat
        go_wp2_with (at_builtin; refine wpList_append_r rfl (.tmp 50) (.tmp 52) rfl (g8 + 1) _ rs rfl HOA.out w6.heap.size 1 lo2 hi2 (by rfl) HCA.out hwd (by omega) (by have := HA8.out.lt; omega) ?_; intro v7 w7 hown7 hgr7 hv7; obtain ⟨A7, n7, c7, rfl⟩ := hown7.shape)
        have K7 := Kept.of_grown (S := fun k => (Value.slice A n c).ownBlock = some k) hgr7 (fun k hk => .inl hk)
        have hvb : ∀ k, (Value.slice A n c).ownBlock = some k → g8 + 1 ≤ k := fun k hk => (HOA.out.block_lt k hk).1
        have HF : Hid (AckL w p T P g8 B tot (j + 1) (.slice A7 n7 c7) w7 (varN (varN s')) lo2 hi2 (rs ++ [(lo2, hi2)])) := Lib.hid
          ⟨HR8.out.kept K7 (fun hk => by have := hvb _ hk; omega) (fun b hb hk => by have := hvb _ hk; omega), hown7, HA8.out.kept K7 (fun hk => by have := hvb _ hk; omega), HK8.out.trans' K7 (fun j hj => .inr (by have := hvb _ hj; omega)), HEQ.out, by simp [hlen], by have := K7.size; have := HA8.out.lt; omega, blo.1, blo.2⟩
        clear e1 e2 e3 e4 K7 hvb hown7 hgr7 hv7 c0 c1 f0 f1 hwd
        go_wp2_with fail
        go_roundw
        case rel => exact ⟨j + 1, _, _, _, _, _, _, _, rfl, by go_num, by omega, HF⟩
        case measure => simp [intOf] <;> omega
      · obtain rfl : j = B := by omega
        have heq := hat.out.eq
        rw [Nat.sub_self, ackLoop] at heq
        obtain ⟨g, rfl, hrev, hgb, hrn, hnc, hcm, hglt⟩ := hat.out.own.rev (by have := hat.out.len; omega)
        have hlen := hat.out.len
        have hwd := hat.out.own.2
        have HQ := Lib.hid heq
        have HREV := Lib.hid hrev
        have HRN := Lib.hid hrn
        have hn16 : n ≤ 16 := by omega
        have hn1 : 1 ≤ n := by omega
        clear heq hrev hrn
        go_wp2_with fail
        refine (rev_any g n c rs wr HRN.out hn1 hn16 hnc hcm HREV.out).mono ?_
        rintro e w9 ⟨rfl, t, ht, hrv⟩
        have hin := hrv.inR (c := c) (P := fun b => w.heap.size ≤ b) HRN.out ht hwd hnc hcm (Nat.lt_of_lt_of_le hglt hrv.kp.size) (by omega)
        have hr9 := (hat.out.rd.kept hrv.kp (by omega) (fun b hb e => by omega)).mono (P' := P) (fun b _ hb => hb.1)
        have hk9 := hat.out.kp.trans' hrv.kp (fun j hj => .inr (by omega))
        have HIN := Lib.hid hin
        have HR9 := Lib.hid hr9
        clear hin hr9 hrv hat
        go_wp2_with fail
        go_ret2
        refine ⟨⟨some ⟨g, 0, none⟩, n, c⟩, ?_, ?_, ?_, hk9⟩
        · rw [HE2.out]; rfl
        · rw [HE2.out, HQ.out]; exact HIN.out
        · rw [HE2.out, HQ.out]; exact HR9.out
end Go.Proofs.Ytcobcgbpmkpljaa
