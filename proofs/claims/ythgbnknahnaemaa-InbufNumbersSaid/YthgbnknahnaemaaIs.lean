/-
  A buffer of the law's own (Ob); the law's known.
-/
import Derived.Test.YthgbnknahnaemaaIi
import Derived.Test.YthgbnknahnaemaaIj
import Derived.Test.YthgbnknahnaemaaStrs
import Derived.Lib.SlBytesConst
namespace Go.Proofs.Ythgbnknahnaemaa
set_option linter.unusedVariables false
set_option linter.unusedSimpArgs false
open Go.RowKit
/-- A buffer that the call made behind the world w0; F: blocks that it has nothing to do with. -/
structure Ob (w0 W : World) (p : Nat) (S : BS) (F : Nat → Prop) : Prop where
  ok : S.ok
  bf : ∃ O, Bf W w0.heap.size p O S ∧ ∀ b, F b → ¬ O b ∧ b < W.heap.size
  bl : Below w0.heap.size w0 W
section
variable {w0 W W' : World} {p : Nat} {S : BS} {F : Nat → Prop}
theorem Ob.below (h : Ob w0 W p S F) (k : Below W.heap.size W W') : Ob w0 W' p S F := by
  obtain ⟨O, h1, h2⟩ := h.bf
  exact ⟨h.ok, ⟨O, h1.below k, fun b hb => ⟨(h2 b hb).1, Nat.lt_of_lt_of_le (h2 b hb).2 k.size⟩⟩, h.bl.trans (k.mono h.bl.size)⟩
theorem Ob.drewN (h : Ob w0 W p S F) (n : Nat) : Ob w0 (W.drewN n) p S F := h.below ⟨rfl, rfl, rfl, Nat.le_refl _, fun _ _ => rfl⟩
theorem Ob.weak {F' : Nat → Prop} (h : Ob w0 W p S F) (hF : ∀ b, F' b → F b) : Ob w0 W p S F' := by
  obtain ⟨O, h1, h2⟩ := h.bf
  exact ⟨h.ok, ⟨O, h1, fun b hb => h2 b (hF b hb)⟩, h.bl⟩
/-- Blocks that came up later are none of its. -/
theorem Ob.fresh {F' : Nat → Prop} (h : Ob w0 W p S F) (k : Below W.heap.size W W') (hF : ∀ b, F' b → F b ∨ (W.heap.size ≤ b ∧ b < W'.heap.size)) : Ob w0 W' p S F' := by
  obtain ⟨O, h1, h2⟩ := h.bf
  refine ⟨h.ok, ⟨O, h1.below k, fun b hb => ?_⟩, h.bl.trans (k.mono h.bl.size)⟩
  rcases hF b hb with h' | ⟨h', h''⟩
  · exact ⟨(h2 b h').1, Nat.lt_of_lt_of_le (h2 b h').2 k.size⟩
  · exact ⟨fun e => by have := (h1.lt b e).2; omega, h''⟩
/-- What a call that changes it leaves. -/
def OPost (w0 W : World) (p : Nat) (S' : BS) (F : Nat → Prop) (r : Value) (e : Ending) (W' : World) : Prop := e = .returned r ∧ Ob w0 W' p S' F ∧ (∀ b, F b → W'.heap[b]? = W.heap[b]?) ∧ W.heap.size ≤ W'.heap.size
theorem ob_new (w0 : World) : Calls Try.prog 7 #[] w0 fun e w' => ∃ p, e = .returned (.pointer (some ⟨p, 0, none⟩)) ∧ Ob w0 w' p bs0 (fun _ => False) :=
  (inew_any w0).mono fun e w' ⟨p, h1, ⟨O, h2⟩, h3⟩ => ⟨p, h1, bs0_ok, ⟨O, h2, fun b hb => hb.elim⟩, h3⟩
theorem addR_ok' {S : BS} (h : S.ok) {off : Nat} {bs : List Int} (fin : Bool) (hb : Byt bs) : (addR S off bs fin).ok := by
  unfold addR
  split
  · rename_i he
    unfold addE at he
    split at he
    · cases he
    · split at he
      · cases he
      · split at he
        · cases he
        · exact addS_ok h fin hb (by omega) (by omega) (by omega)
  · exact h
theorem ob_post {O : Nat → Prop} {r : Value} {S' : BS} {e : Ending} (h1 : Bf W w0.heap.size p O S) (h2 : ∀ b, F b → ¬ O b ∧ b < W.heap.size) (bl : Below w0.heap.size w0 W) (ok' : S'.ok) (h : BPost r w0.heap.size p O S' W e W') : OPost w0 W p S' F r e W' := by
  obtain ⟨he, O', hb, hk, ho⟩ := h
  refine ⟨he, ⟨ok', ⟨O', hb, fun b hb' => ⟨fun e => ?_, Nat.lt_of_lt_of_le (h2 b hb').2 hk.size⟩⟩, hk.below bl bl.size fun j hj => (h1.lt j hj).1⟩, fun b hb' => hk.block b (h2 b hb').2 (h2 b hb').1, hk.size⟩
  rcases ho b e with h' | h'
  · exact (h2 b hb').1 h'
  · have := (h2 b hb').2; omega
/-- A piece that lies below the law's own blocks. -/
theorem ob_add_in (h : Ob w0 W p S F) (off : Nat) (A : Option Addr) (n c : Nat) (bs : List Int) (fin : Bool) (hr : Rd w0 w0.heap.size A n bs) (hnc : n ≤ c) (ho : off < 18446744073709551616) (hn : n < 9223372036854775808) :
    Calls Try.prog 9 #[.pointer (some ⟨p, 0, none⟩), .int .u64 off, .slice A n c, .bool fin] W (OPost w0 W p (addR S off bs fin) F (.int .i64 (addE S off n fin))) := by
  obtain ⟨O, h1, h2⟩ := h.bf
  refine (iadd_any w0.heap.size p O S off A n c bs fin W h1 h.ok h.bl.size ((RdP.of_rd (hr.below h.bl) h.bl.size).mono fun b _ hb e => by have := (h1.lt b e).1; omega) hnc ho hn).mono fun e w' hP => ob_post h1 h2 h.bl (addR_ok' h.ok fin hr.2.1) hP
/-- A piece in a block that it has nothing to do with. -/
theorem ob_add_f (h : Ob w0 W p S F) (off g n c : Nat) (bs : List Int) (fin : Bool) (hr : Rd W W.heap.size (some ⟨g, 0, none⟩) n bs) (hF : F g) (hnc : n ≤ c) (ho : off < 18446744073709551616) (hn : n < 9223372036854775808) :
    Calls Try.prog 9 #[.pointer (some ⟨p, 0, none⟩), .int .u64 off, .slice (some ⟨g, 0, none⟩) n c, .bool fin] W (OPost w0 W p (addR S off bs fin) F (.int .i64 (addE S off n fin))) := by
  obtain ⟨O, h1, h2⟩ := h.bf
  refine (iadd_any w0.heap.size p O S off (some ⟨g, 0, none⟩) n c bs fin W h1 h.ok h.bl.size ⟨hr, fun b off' hp e' => ?_⟩ hnc ho hn).mono fun e w' hP => ob_post h1 h2 h.bl (addR_ok' h.ok fin hr.2.1) hP
  injection e' with e'
  injection e' with e1 _
  subst e1
  exact (h2 g hF).1
/-- A literal's bytes, marked or not. -/
theorem rd_lit14 (w : World) (t : TypeId) (bs : List Int) (hb : Byt bs) (cs : Array Value) (fr : Nat × Nat) (hcs : cs = (bs.map (Value.int .u8)).toArray) : Rd (w.alloc (.cells cs t fr)) (w.heap.size + 1) (some ⟨w.heap.size, 0, none⟩) bs.length bs := by
  subst hcs
  refine ⟨rfl, hb, fun hp => ⟨w.heap.size, 0, rfl, by omega, fun i hi => ?_⟩⟩
  have hg : (w.alloc (.cells (bs.map (Value.int .u8)).toArray t fr)).heap[w.heap.size]? = some (.cells (bs.map (Value.int .u8)).toArray t fr) := by
    show (w.heap.push _)[w.heap.size]? = _
    simp
  rw [cell_of_row _ _ _ _ _ fr hg, Nat.zero_add]
  simp [List.getD_eq_getElem?_getD, List.getElem?_eq_getElem hi]
/-- A piece of a literal. -/
theorem ob_add_lit (h : Ob w0 W p S F) (off : Nat) (bs : List Int) (cs : Array Value) (fr : Nat × Nat) (n : Nat) (fin : Bool) (hb : Byt bs) (hcs : cs = (bs.map (Value.int .u8)).toArray) (hl : bs.length = n) (ho : off < 18446744073709551616) (hn : n < 9223372036854775808) :
    Calls Try.prog 9 #[.pointer (some ⟨p, 0, none⟩), .int .u64 off, .slice (some ⟨W.heap.size, 0, none⟩) n n, .bool fin] (W.alloc (.cells cs 5 fr)) (OPost w0 (W.alloc (.cells cs 5 fr)) p (addR S off bs fin) F (.int .i64 (addE S off n fin))) := by
  subst hl
  have hk : Below W.heap.size W (W.alloc (.cells cs 5 fr)) := (Below.refl _ _).alloc (Nat.le_refl _) _
  have hr := rd_lit14 W 5 bs hb cs fr hcs
  have hs : (W.alloc (.cells cs 5 fr)).heap.size = W.heap.size + 1 := by simp
  have h' := h.fresh (F' := fun b => F b ∨ b = W.heap.size) hk fun b hb => hb.imp id fun e => ⟨by omega, by omega⟩
  refine (ob_add_f h' off W.heap.size bs.length bs.length bs fin (by rw [hs]; exact hr) (.inr rfl) (Nat.le_refl _) ho hn).mono fun e w' hP => ⟨hP.1, hP.2.1.weak fun b hb => .inl hb, fun b hb => hP.2.2.1 b (.inl hb), hP.2.2.2⟩
/-- Nothing at all. -/
theorem ob_add_nil (h : Ob w0 W p S F) (off : Nat) (fin : Bool) (ho : off < 18446744073709551616) :
    Calls Try.prog 9 #[.pointer (some ⟨p, 0, none⟩), .int .u64 off, .slice none 0 0, .bool fin] W (OPost w0 W p (addR S off [] fin) F (.int .i64 (addE S off 0 fin))) :=
  ob_add_in h off none 0 0 [] fin (Rd.none_ _ _ _) (Nat.le_refl _) ho (by omega)
/-- What Take leaves. -/
def OTPost (w0 W : World) (p : Nat) (S : BS) (n : Nat) (F : Nat → Prop) (e : Ending) (W' : World) : Prop :=
  ∃ v, e = .returned (.tuple #[v, .bool (S.en && decide (S.rd + n = S.fi))]) ∧ Own W' W.heap.size 5 v (outB S.g S.rd n) ∧ Ob w0 W' p (takeS S n) F ∧ (∀ b, F b → W'.heap[b]? = W.heap[b]?) ∧ W.heap.size ≤ W'.heap.size
theorem ob_take (h : Ob w0 W p S F) (most : Int) (hm : -9223372036854775808 ≤ most ∧ most < 9223372036854775808) (k : Nat) (hk : IsR S.g S.rd k) :
    Calls Try.prog 13 #[.pointer (some ⟨p, 0, none⟩), .int .i64 most] W (OTPost w0 W p S (min most.toNat k) F) := by
  obtain ⟨O, h1, h2⟩ := h.bf
  refine (itake_any w0.heap.size p O S most W h1 h.ok h.bl.size hm k hk).mono fun e w' ⟨v, he, ho, O', hb, hK, hO⟩ => ?_
  have hp := ob_post (r := .tuple #[]) (e := .returned (.tuple #[])) h1 h2 h.bl (takeS_ok h.ok hk (Nat.min_le_right _ _)) ⟨rfl, O', hb, hK, hO⟩
  exact ⟨v, he, ho, hp.2⟩
theorem ob_read (h : Ob w0 W p S F) : Calls Try.prog 25 #[.pointer (some ⟨p, 0, none⟩)] W fun e w' => e = .returned (.int .u64 S.rd) ∧ w' = W := by
  obtain ⟨O, h1, _⟩ := h.bf
  exact iread_any h1
theorem ob_high (h : Ob w0 W p S F) : Calls Try.prog 16 #[.pointer (some ⟨p, 0, none⟩)] W fun e w' => e = .returned (.int .u64 S.hi) ∧ w' = W := by
  obtain ⟨O, h1, _⟩ := h.bf
  exact ihigh_any h1
theorem ob_fin (h : Ob w0 W p S F) : Calls Try.prog 17 #[.pointer (some ⟨p, 0, none⟩)] W fun e w' => e = .returned (.tuple #[.int .u64 S.fi, .bool S.en]) ∧ Ob w0 w' p S F ∧ (∀ b, F b → w'.heap[b]? = W.heap[b]?) ∧ Below W.heap.size W w' := by
  obtain ⟨O, h1, h2⟩ := h.bf
  exact (ifin_any h1).mono fun e w' ⟨he, d, hw⟩ => ⟨he, by rw [hw]; exact h.drewN d, fun b _ => by rw [hw]; rfl, by rw [hw]; exact ⟨rfl, rfl, rfl, Nat.le_refl _, fun _ _ => rfl⟩⟩
theorem ob_ready (h : Ob w0 W p S F) (k : Nat) (hk : IsR S.g S.rd k) : Calls Try.prog 10 #[.pointer (some ⟨p, 0, none⟩)] W fun e w' => e = .returned (.int .i64 k) ∧ Ob w0 w' p S F ∧ Below W.heap.size W w' := by
  obtain ⟨O, h1, _⟩ := h.bf
  exact (iready_any w0.heap.size p O S W h1 h.ok k hk).mono fun e w' ⟨he, hb⟩ => ⟨he, h.below hb, hb⟩
theorem ob_whole (h : Ob w0 W p S F) (k : Nat) (hk : IsR S.g S.rd k) : Calls Try.prog 15 #[.pointer (some ⟨p, 0, none⟩)] W fun e w' => e = .returned (.bool (S.en && decide (S.rd + k = S.fi))) ∧ Ob w0 w' p S F ∧ Below W.heap.size W w' := by
  obtain ⟨O, h1, _⟩ := h.bf
  exact (iwhole_any w0.heap.size p O S W h1 h.ok k hk).mono fun e w' ⟨he, hb⟩ => ⟨he, h.below hb, hb⟩
end
def kn1 : BS := addR bs0 2 [99, 100] true
def kn2 : BS := addR kn1 0 [97, 98] false
theorem kn1_e : addE bs0 2 2 true = 0 := by decide
theorem kn1_eq : kn1 = ⟨0, 4, 4, true, addG (fun _ => none) 2 [99, 100]⟩ := rfl
theorem kn2_e : addE kn1 0 2 false = 0 := by decide
theorem kn2_eq : kn2 = ⟨0, 4, 4, true, addG (addG (fun _ => none) 2 [99, 100]) 0 [97, 98]⟩ := rfl
theorem kn3_e : addE kn2 4 1 false = 30 := by decide
theorem kn3_eq : addR kn2 4 [101] false = kn2 := by
  unfold addR
  rw [if_neg]
  exact (show addE kn2 4 1 false ≠ 0 by rw [kn3_e]; decide)
theorem kn_r : IsR kn2.g kn2.rd 4 := by
  rw [kn2_eq]
  refine ⟨fun i hi => ?_, rfl⟩
  have : i = 0 ∨ i = 1 ∨ i = 2 ∨ i = 3 := by omega
  rcases this with rfl | rfl | rfl | rfl <;> rfl
theorem kn_out : outB kn2.g kn2.rd 4 = [97, 98, 99, 100] := rfl
theorem kn_r2 : IsR (takeS kn2 4).g (takeS kn2 4).rd 0 := ⟨fun i hi => absurd hi (by omega), rfl⟩
theorem kn_str : strOfNums [97, 98, 99, 100] = ⟨#[97, 98, 99, 100]⟩ := rfl
set_option maxHeartbeats 8000000 in
set_option maxRecDepth 100000 in
theorem known14_any (w : World) : Calls Try.prog 11 #[] w fun e w' => e = .returned (.bool true) ∧ Below w.heap.size w w' := by
  have HN := Lib.hid (ob_new w)
  have B1 : Hid (Byt [99, 100]) := Lib.hid (fun x hx => by simp at hx; omega)
  have B2 : Hid (Byt [97, 98]) := Lib.hid (fun x hx => by simp at hx; omega)
  have B3 : Hid (Byt [101]) := Lib.hid (fun x hx => by simp at hx; omega)
  have HA1 : Hid (∀ W p, Ob w W p bs0 (fun _ => False) → Calls Try.prog 9 #[.pointer (some ⟨p, 0, none⟩), .int .u64 2, .slice (some ⟨W.heap.size, 0, none⟩) 2 2, .bool true] (W.alloc (.cells #[.int .u8 99, .int .u8 100] 5 (2, 3))) (OPost w (W.alloc (.cells #[.int .u8 99, .int .u8 100] 5 (2, 3))) p kn1 (fun _ => False) (.int .i64 0))) := Lib.hid (fun W p h => by
    have := ob_add_lit h 2 [99, 100] #[.int .u8 99, .int .u8 100] (2, 3) 2 true B1.out rfl rfl (by omega) (by omega)
    rw [kn1_e] at this
    exact this)
  have HA2 : Hid (∀ W p, Ob w W p kn1 (fun _ => False) → Calls Try.prog 9 #[.pointer (some ⟨p, 0, none⟩), .int .u64 0, .slice (some ⟨W.heap.size, 0, none⟩) 2 2, .bool false] (W.alloc (.cells #[.int .u8 97, .int .u8 98] 5 (2, 3))) (OPost w (W.alloc (.cells #[.int .u8 97, .int .u8 98] 5 (2, 3))) p kn2 (fun _ => False) (.int .i64 0))) := Lib.hid (fun W p h => by
    have := ob_add_lit h 0 [97, 98] #[.int .u8 97, .int .u8 98] (2, 3) 2 false B2.out rfl rfl (by omega) (by omega)
    rw [kn2_e] at this
    exact this)
  have HA3 : Hid (∀ W p, Ob w W p kn2 (fun _ => False) → Calls Try.prog 9 #[.pointer (some ⟨p, 0, none⟩), .int .u64 4, .slice (some ⟨W.heap.size, 0, none⟩) 1 1, .bool false] (W.alloc (.cells #[.int .u8 101] 5 (1, 2))) (OPost w (W.alloc (.cells #[.int .u8 101] 5 (1, 2))) p kn2 (fun _ => False) (.int .i64 30))) := Lib.hid (fun W p h => by
    have := ob_add_lit h 4 [101] #[.int .u8 101] (1, 2) 1 false B3.out rfl rfl (by omega) (by omega)
    rw [kn3_e, kn3_eq] at this
    exact this)
  have HT : Hid (∀ W p, Ob w W p kn2 (fun _ => False) → Calls Try.prog 13 #[.pointer (some ⟨p, 0, none⟩), .int .i64 9] W fun e w' => ∃ v, e = .returned (.tuple #[v, .bool true]) ∧ Own w' W.heap.size 5 v [97, 98, 99, 100] ∧ Ob w w' p (takeS kn2 4) (fun _ => False)) := Lib.hid (fun W p h => by
    refine (ob_take h 9 (by omega) 4 kn_r).mono fun e w' ⟨v, he, ho, hb, _⟩ => ⟨v, he, ?_, hb⟩
    have := ho
    rw [show min (9 : Int).toNat 4 = 4 from rfl, kn_out] at this
    exact this)
  have HRD : Hid (∀ W p, Ob w W p (takeS kn2 4) (fun _ => False) → Calls Try.prog 25 #[.pointer (some ⟨p, 0, none⟩)] W fun e w' => e = .returned (.int .u64 4) ∧ w' = W) := Lib.hid (fun W p h => ob_read h)
  have HWH : Hid (∀ W p, Ob w W p (takeS kn2 4) (fun _ => False) → Calls Try.prog 15 #[.pointer (some ⟨p, 0, none⟩)] W fun e w' => e = .returned (.bool true) ∧ Ob w w' p (takeS kn2 4) (fun _ => False)) := Lib.hid (fun W p h => (ob_whole h 0 kn_r2).mono fun e w' ⟨h1, h2, _⟩ => ⟨h1, h2⟩)
  have kc := fun (w : World) (C : Array Value) (n c : Nat) => Lib.run_convert_bytes_const (P := Try.prog) w 22 5 C n c Try.underlying22 Try.underlying5
  have hbb := bb_refl ⟨#[97, 98, 99, 100]⟩
  go_enter Try.func11, Try.ntmps11
  go_wp2_with (first
    | (go_at_call 7; (with_reducible refine HN.out.mono ?_); rintro e w1 ⟨p, rfl, hO1⟩; have H1 := Lib.hid (HA1.out w1 p hO1); clear hO1)
    | (go_at_call 9; (with_reducible refine H1.out.mono ?_); rintro e w2 ⟨rfl, hO2, _⟩; have H2 := Lib.hid (HA2.out w2 p hO2); clear hO2 H1)
    | (go_at_call 9; (with_reducible refine H2.out.mono ?_); rintro e w3 ⟨rfl, hO3, _⟩; have H3 := Lib.hid (HA3.out w3 p hO3); clear hO3 H2)
    | (go_at_call 9; (with_reducible refine H3.out.mono ?_); rintro e w4 ⟨rfl, hO4, _⟩; have H4 := Lib.hid (HT.out w4 p hO4); clear hO4 H3)
    | (go_at_call 13; (with_reducible refine H4.out.mono ?_); rintro e w5 ⟨v, rfl, hv5, hO5⟩; obtain ⟨A5, c5, rfl, _, _, hr5⟩ := hv5.open_n 4 rfl; have t1 := run_text (P := Try.prog) (c := c5) hr5 22 5 9 Try.underlying22 Try.underlying5 Try.underlying9; rw [kn_str] at t1; have H5 := Lib.hid (HRD.out w5 p hO5); have H6 := Lib.hid (HWH.out w5 p hO5); clear hO5 hv5 hr5 H4)
    | (go_at_call 25; (with_reducible refine H5.out.mono ?_); rintro e w6 ⟨rfl, hw6⟩; (try rw [hw6]); clear hw6)
    | (go_at_call 15; (with_reducible refine H6.out.mono ?_); rintro e w7 ⟨rfl, hO7⟩; have HO7 := Lib.hid hO7.bl; clear hO7))
  go_ret
  exact ⟨by first | rfl | simp, HO7.out⟩
end Go.Proofs.Ythgbnknahnaemaa
