/-
  Text of both readers; Of of package octet.
-/
import Derived.Test.YtehdilgnlhhjdaaMq4
import Derived.Test.YtehdilgnlhhjdaaMq0
import Derived.Laws.CopyOwn
import Derived.Test.YtehdilgnlhhjdaaProg
import Derived.Deep.RegionHeld
import Derived.Test.YtehdilgnlhhjdaaMq1
import Derived.Test.YtehdilgnlhhjdaaMq2
import Derived.Test.YtehdilgnlhhjdaaMq3
namespace Go.Proofs.Ytehdilgnlhhjdaa
section
set_option linter.unusedVariables false
open Go.RowKit
set_option maxRecDepth 100000 in
theorem takeN_le (s : St) (n : Int) : (takeN s n).1.length ≤ s.1.length := by
  unfold takeN
  split
  · simp
  · simp
set_option maxRecDepth 100000 in
theorem varN_le (s : St) : (varN s).1.length ≤ s.1.length := by
  unfold varN
  split
  · simp
  · exact takeN_le _ _
set_option maxRecDepth 100000 in
theorem take_out (s : St) (x : Int) (h : (s.1.length : Int) < x) : takeR s x = [] ∧ takeN s x = ([], true) := by
  unfold takeR takeN
  rw [if_neg (by omega), if_neg (by omega)]; exact ⟨rfl, rfl⟩
set_option maxRecDepth 100000 in
theorem take_bad (s : St) (x : Int) (hb : s.2 = true) (h : s.1 = []) : takeR s x = [] ∧ takeN s x = ([], true) := by
  obtain ⟨bs, bad⟩ := s
  subst hb; subst h
  unfold takeR takeN
  constructor <;> split <;> simp
set_option maxRecDepth 100000 in
theorem text_any (p : Nat) (T : TypeId) (P : Nat → Prop) (s : St) (w : World) (hr : Rdr w p T P s) (hP : ∀ b, P b → b ≠ p) (hl : s.1.length ≤ 140737488355000) :
    Calls Try.prog 100 #[.pointer (some ⟨p, 0, none⟩)] w (RawPost w p T P (textR s) (textN s)) := by
  have hbd := varR_bd s hr.byt
  have hvl := varN_le s
  have R1 := Lib.hid (show textR s = takeR (varN s) (varR s) from rfl)
  have R2 := Lib.hid (show textN s = takeN (varN s) (varR s) from rfl)
  go_enter Try.func100, Try.ntmps100
  go_wp2_with fail
  refine (var_any p T P s w hr hP).mono ?_
  rintro e w1 ⟨rfl, hr1, hk1⟩
  clear hr
  obtain ⟨x, hx⟩ : ∃ x, varR s = x := ⟨_, rfl⟩
  obtain ⟨s2, hs2⟩ : ∃ s2, varN s = s2 := ⟨_, rfl⟩
  rw [hx] at hbd R1 R2
  rw [hs2] at hr1 R1 R2 hvl
  rw [hx]
  clear hx hs2
  obtain ⟨hx0, hx1⟩ := hbd
  have HR := Lib.hid hr1
  obtain ⟨A, m, c, hA, hmc, hc, hAc, hrd, hbad⟩ := hr1
  have hc' := hc
  unfold maxLen at hc'
  have hlen := hrd.len
  have c0 := hA.cell 0
  have hto := take_out s2 x
  rw [hlen] at hvl hto
  have H := Lib.hid hA; clear hA hbad
  have HL := Lib.hid hlen; clear hlen
  rcases Int.lt_or_le (m : Int) x with hlt | hge
  · have T1 := Lib.hid (hto hlt)
    clear hto
    go_wp2_with fail
    refine (spoil_any p T _ _ w1 H.out).mono ?_
    rintro e w2 ⟨rfl, hA', hk'⟩
    go_wp2_with fail
    go_ret
    exact ⟨_, rfl, by rw [R1.out, T1.out.1]; exact Own.none_ _ _ _, by rw [R2.out, T1.out.2]; exact Rdr.of_spoil hA', hk1.trans hk'⟩
  · clear hto
    go_wp2_with fail
    refine (raw_any p T P s2 x w1 HR.out hP (by rw [HL.out]; omega)).mono ?_
    rintro e w2 ⟨v, rfl, hown, hr', hk'⟩
    go_wp2_with fail
    go_ret
    exact ⟨_, rfl, by rw [R1.out]; exact hown.base_ hk1.size, by rw [R2.out]; exact hr', hk1.trans hk'⟩
set_option maxRecDepth 100000 in
set_option maxHeartbeats 1000000 in
theorem rtext_any (p : Nat) (T : TypeId) (P : Nat → Prop) (s : St) (w : World) (hr : Rdr w p T P s) (hP : ∀ b, P b → b ≠ p) (hl : s.1.length ≤ 140737488355000) :
    Calls Try.prog 53 #[.pointer (some ⟨p, 0, none⟩)] w (RawPost w p T P (textR s) (textN s)) := by
  have hbd := varR_bd s hr.byt
  have hvl := varN_le s
  have R1 := Lib.hid (show textR s = takeR (varN s) (varR s) from rfl)
  have R2 := Lib.hid (show textN s = takeN (varN s) (varR s) from rfl)
  go_enter Try.func53, Try.ntmps53
  go_wp2_with fail
  refine (rvar_any p T P s w hr hP).mono ?_
  rintro e w1 ⟨rfl, hr1, hk1⟩
  clear hr
  obtain ⟨x, hx⟩ : ∃ x, varR s = x := ⟨_, rfl⟩
  obtain ⟨s2, hs2⟩ : ∃ s2, varN s = s2 := ⟨_, rfl⟩
  rw [hx] at hbd R1 R2
  rw [hs2] at hr1 R1 R2 hvl
  rw [hx]
  clear hx hs2
  obtain ⟨hx0, hx1⟩ := hbd
  have HR := Lib.hid hr1
  obtain ⟨A, m, c, hA, hmc, hc, hAc, hrd, hbad⟩ := hr1
  have hc' := hc
  unfold maxLen at hc'
  have hlen := hrd.len
  have c0 := hA.cell 0
  have c1 := hA.cell 1
  have f0 := hA.frozen 0
  have f1 := hA.frozen 1
  have hto := take_out s2 x
  have htb := fun h => take_bad s2 x h (hbad h)
  rw [hlen] at hvl hto
  have HS := Lib.hid ((hA.set 1 (.bool true)).set 0 (.slice none 0 0))
  have H := Lib.hid hA; clear hA hbad
  have HL := Lib.hid hlen; clear hlen
  obtain ⟨bs, bad⟩ := s2
  cases bad with
  | true =>
    have T1 := Lib.hid (htb rfl)
    clear hto htb
    go_wp2_with fail
    go_ret
    exact ⟨_, rfl, by rw [R1.out, T1.out.1]; exact Own.none_ _ _ _, by rw [R2.out, T1.out.2]; exact Rdr.of_spoil HS.out, (hk1.setAt _ _).setAt _ _⟩
  | false =>
    clear htb
    rcases Int.lt_or_le (m : Int) x with hlt | hge
    · have T1 := Lib.hid (hto hlt)
      clear hto
      go_wp2_with fail
      go_ret
      exact ⟨_, rfl, by rw [R1.out, T1.out.1]; exact Own.none_ _ _ _, by rw [R2.out, T1.out.2]; exact Rdr.of_spoil HS.out, (hk1.setAt _ _).setAt _ _⟩
    · clear hto
      go_wp2_with fail
      refine (rraw_any p T P (bs, false) x w1 HR.out hP (by rw [HL.out]; omega)).mono ?_
      rintro e w2 ⟨v, rfl, hown, hr', hk'⟩
      go_wp2_with fail
      go_ret
      exact ⟨_, rfl, by rw [R1.out]; exact hown.base_ hk1.size, by rw [R2.out]; exact hr', hk1.trans hk'⟩
set_option maxRecDepth 100000 in
theorem of_any (A : Option Addr) (n c : Nat) (bs : List Int) (w : World) (hr : Rd w w.heap.size A n bs) (hc : n ≤ 140737488355000) (hA : A = none → c = 0) :
    Calls Try.prog 71 #[.slice A n c] w fun e w' => ∃ p, e = .returned (.pointer (some ⟨p, 0, none⟩)) ∧ w.heap.size ≤ p ∧
      Rdr w' p 131 (fun b => w.heap.size ≤ b ∧ b < p) (bs, false) ∧ Below w.heap.size w w' := by
  have HL := Lib.hid hr.1
  go_enter Try.func71, Try.ntmps71
  go_wp2_with fail
  refine (clone_any A n c bs w hr hc hA).mono ?_
  rintro e w1 ⟨v, rfl, hown, hb⟩
  have hsz := hb.size
  obtain ⟨A', c', rfl, h1, h2, h3⟩ := hown.open_n n HL.out
  have hAc : A' = none → c' = 0 := by
    intro h
    subst h
    rcases hown.1.2 with ⟨h, _⟩ | ⟨g, cap, cur, h, _⟩
    · injection h
    · injection h with h; cases h
  have hP := (hown.rdP HL.out).mono (P' := fun b => w.heap.size ≤ b ∧ b < w1.heap.size) (fun b hb' e => ⟨(hown.block_lt b e).1, hb'⟩)
  go_wp2_with fail
  go_ret
  refine ⟨_, rfl, hsz, ⟨A', n, c', At.new w1 _ _, h1, h2, hAc, hP.kept ((Kept.refl (fun _ => False) _).alloc _) (fun _ _ h => h), fun h => by cases h⟩, hb.alloc hsz _⟩
end
section
set_option linter.unusedVariables false
set_option linter.unusedSimpArgs false
open Go.RowKit
/-- Eight bytes, zeros where they lack. -/
def cid8 (bs : List Int) : List Int := [bs.getD 0 0, bs.getD 1 0, bs.getD 2 0, bs.getD 3 0, bs.getD 4 0, bs.getD 5 0, bs.getD 6 0, bs.getD 7 0]
theorem takeR8 (s : St) : (takeR s 8).length = 8 ∨ takeR s 8 = [] := by
  unfold takeR
  split
  · left; simp; omega
  · right; rfl
theorem cid8_full (bs : List Int) (h : bs.length = 8) : cid8 bs = bs := by
  match bs, h with
  | [a, b, c, d, e, f, g, i], _ => rfl
def CidPost (w : World) (p : Nat) (T : TypeId) (P : Nat → Prop) (s : St) (e : Ending) (w' : World) : Prop :=
  e = .returned (.agg ((cid8 (takeR s 8)).map (Value.int .u8)).toArray) ∧ Rdr w' p T P (takeN s 8) ∧ Kept (· = p) w w'
theorem Kept.of_belowB {B : Nat} {w w' : World} (h : Below B w w') : Kept (fun j => B ≤ j) w w' := ⟨h.os, h.tape, h.output, h.size, fun j _ hn => h.block j (by omega)⟩
theorem Rdr.mono {w : World} {p : Nat} {T : TypeId} {P P' : Nat → Prop} {s : St} (h : Rdr w p T P s) (hp : ∀ b, b < w.heap.size → P b → P' b) : Rdr w p T P' s := by
  obtain ⟨A, n, c, h1, h2, h3, h4, h5, h6⟩ := h
  exact ⟨A, n, c, h1, h2, h3, h4, h5.mono hp, h6⟩
theorem cid_info : (Try.prog.info? 27).map (·.size) = some 8 := by kernel_rfl
end
section
set_option linter.unusedVariables false
open Go.RowKit
def Wtr (w : World) (base p : Nat) (T : TypeId) (v : Value) (bs : List Int) : Prop :=
  At w p T [v] ∧ base ≤ p ∧ Own w base 5 v bs ∧ v.ownBlock ≠ some p
/-- Only block p, and the row that it held, may have turned. -/
abbrev WS (p : Nat) (v : Value) : Nat → Prop := fun j => j = p ∨ v.ownBlock = some j
def WPost (r : Value) (w : World) (base p : Nat) (T : TypeId) (v : Value) (bs : List Int) (e : Ending) (w' : World) : Prop :=
  ∃ v', e = .returned r ∧ Wtr w' base p T v' bs ∧ (v'.ownBlock = v.ownBlock ∨ ∃ k, w.heap.size ≤ k ∧ v'.ownBlock = some k) ∧ Kept (WS p v) w w'
set_option maxRecDepth 100000 in
theorem Own.shape {w : World} {base : Nat} {e : TypeId} {v : Value} {bs : List Int} (h : Own w base e v bs) : ∃ A n c, v = .slice A n c := by
  obtain ⟨A, c, h, _⟩ := h.open_
  exact ⟨A, _, c, h⟩
set_option maxRecDepth 100000 in
/-- What append leaves, and the store behind it. -/
theorem Wtr.put {w w1 w2 : World} {base p : Nat} {T : TypeId} {v v' : Value} {bs bs' : List Int} (h : Wtr w base p T v bs) (hw1 : Below w.heap.size w w1) (hown : Own w2 base 5 v' bs') (hg : w1.grownBy w2 v.ownBlock)
    (hv : v'.ownBlock = v.ownBlock ∨ v'.ownBlock = some w1.heap.size) :
    Wtr (w2.setCell ⟨p, 0, none⟩ v') base p T v' bs' ∧ (v'.ownBlock = v.ownBlock ∨ ∃ k, w.heap.size ≤ k ∧ v'.ownBlock = some k) ∧ Kept (WS p v) w (w2.setCell ⟨p, 0, none⟩ v') ∧ w2.cell? ⟨p, 0, none⟩ = some v ∧ w2.frozen? ⟨p, 0, none⟩ = false := by
  obtain ⟨hA, hbp, ho, hne⟩ := h
  have hlt := hA.lt
  have hsz := hw1.size
  have k1 : Kept (WS p v) w w1 := Kept.of_below hw1 _
  have k2 : Kept (fun j => v.ownBlock = some j) w1 w2 := Kept.of_grown hg (fun k hk => .inl hk)
  have A1 : At w1 p T [v] := hA.below hw1 hlt
  have A2 : At w2 p T [v] := A1.kept k2 hne
  have hne' : v'.ownBlock ≠ some p := by
    rcases hv with h | h
    · rw [h]; exact hne
    · rw [h]; intro e; injection e; omega
  have kk : Kept (WS p v) w w2 := k1.trans' k2 fun j hj => .inl (.inr hj)
  refine ⟨⟨A2.set 0 v', hbp, hown.kept ((Kept.refl (· = p) _).setAt 0 v') (fun j hj e => hne' (by rw [hj, e])), hne'⟩, ?_, kk.setCell (.inl (.inl rfl)) _, A2.cell 0, A2.frozen 0⟩
  rcases hv with h | h
  · exact .inl h
  · exact .inr ⟨_, hsz, h⟩
set_option maxRecDepth 100000 in
theorem wbyte_any (base p : Nat) (T : TypeId) (v : Value) (bs : List Int) (x : Int) (w : World) (h : Wtr w base p T v bs) (hl : bs.length ≤ 100000000000000) (h0 : 0 ≤ x) (h1 : x < 256) (hbase : base ≤ w.heap.size) :
    Calls Try.prog 82 #[.pointer (some ⟨p, 0, none⟩), .int .u8 x] w (WPost (.tuple #[]) w base p T v (bs ++ [x])) := by
  obtain ⟨i0, hi, hz0, hz1, hz2⟩ := info_parts u8_info
  have c0 := h.1.cell 0
  go_enter Try.func82, Try.ntmps82
  go_wp2_with (at_builtin; refine wpList_append_at rfl (.tmp 8) (.tmp 10) 28 rfl base 5 i0 Try.underlying28 hi hz0 hz1 hz2 _ bs rfl (h.2.2.1.alloc _) _ _ 1 1 [x] rfl (Rd.byte w 5 _ rfl x ⟨h0, h1⟩) (by omega) (by simp; omega) ?_; intro v' w2 hown2 hgr2 hv2; obtain ⟨A', n', c', rfl⟩ := hown2.shape; obtain ⟨P1, P2, P3, P4, P5⟩ := h.put ((Below.refl _ _).alloc (Nat.le_refl _) _) hown2 hgr2 hv2; have P1' := Lib.hid P1; have P2' := Lib.hid P2; clear P1 P2 hgr2 hv2)
  go_end0
  exact ⟨_, rfl, P1'.out, P2'.out, P3⟩
def twoB (n : Int) : List Int := [n / 256, n % 256]
set_option maxRecDepth 100000 in
theorem wtwo_any (base p : Nat) (T : TypeId) (v : Value) (bs : List Int) (x : Int) (w : World) (h : Wtr w base p T v bs) (hl : bs.length ≤ 100000000000000) (h0 : 0 ≤ x) (h1 : x < 65536) (hbase : base ≤ w.heap.size) :
    Calls Try.prog 84 #[.pointer (some ⟨p, 0, none⟩), .int .u16 x] w (WPost (.tuple #[]) w base p T v (bs ++ twoB x)) := by
  obtain ⟨i0, hi, hz0, hz1, hz2⟩ := info_parts u8_info
  have c0 := h.1.cell 0
  have e1 : IntKind.u8.wrap (x / 256) = x / 256 := by rw [IntKind.wrap_u8]; omega
  have e2 : IntKind.u8.wrap x = x % 256 := by rw [IntKind.wrap_u8]
  have hby : Byt [x / 256, x % 256] := fun y hy => by simp at hy; omega
  go_enter Try.func84, Try.ntmps84
  go_wp2_with (at_builtin; refine wpList_append_at rfl (.tmp 8) (.tmp 14) 28 rfl base 5 i0 Try.underlying28 hi hz0 hz1 hz2 _ bs rfl (h.2.2.1.alloc _) _ _ 2 2 [x / 256, x % 256] rfl (Rd.lit w 5 _ hby _ rfl) (by omega) (by simp; omega) ?_; intro v' w2 hown2 hgr2 hv2; obtain ⟨A', n', c', rfl⟩ := hown2.shape; obtain ⟨P1, P2, P3, P4, P5⟩ := h.put ((Below.refl _ _).alloc (Nat.le_refl _) _) hown2 hgr2 hv2; have P1' := Lib.hid P1; have P2' := Lib.hid P2; clear P1 P2 hgr2 hv2)
  go_end0
  exact ⟨_, rfl, P1'.out, P2'.out, P3⟩
set_option maxRecDepth 100000 in
theorem wraw_any (base p : Nat) (T : TypeId) (v : Value) (bs : List Int) (A : Option Addr) (n c : Nat) (xs : List Int) (w : World) (h : Wtr w base p T v bs) (hl : bs.length + n ≤ 140737488355000) (hr : Rd w w.heap.size A n xs) (hbase : base ≤ w.heap.size) :
    Calls Try.prog 83 #[.pointer (some ⟨p, 0, none⟩), .slice A n c] w (WPost (.tuple #[]) w base p T v (bs ++ xs)) := by
  obtain ⟨i0, hi, hz0, hz1, hz2⟩ := info_parts u8_info
  have c0 := h.1.cell 0
  go_enter Try.func83, Try.ntmps83
  go_wp2_with (at_builtin; refine wpList_append_at rfl (.tmp 8) (.tmp 9) 28 rfl base 5 i0 Try.underlying28 hi hz0 hz1 hz2 _ bs rfl h.2.2.1 _ A n c xs rfl hr (by omega) hbase ?_; intro v' w2 hown2 hgr2 hv2; obtain ⟨A', n', c', rfl⟩ := hown2.shape; obtain ⟨P1, P2, P3, P4, P5⟩ := h.put (Below.refl _ _) hown2 hgr2 hv2; have P1' := Lib.hid P1; have P2' := Lib.hid P2; clear P1 P2 hgr2 hv2)
  go_end0
  exact ⟨_, rfl, P1'.out, P2'.out, P3⟩
set_option maxRecDepth 100000 in
theorem Wtr.kept {S : Nat → Prop} {w w' : World} {base p : Nat} {T : TypeId} {v : Value} {bs : List Int} (h : Wtr w base p T v bs) (k : Kept S w w') (hp : ¬ S p) (hs : ∀ j, v.ownBlock = some j → ¬ S j) : Wtr w' base p T v bs :=
  ⟨h.1.kept k hp, h.2.1, h.2.2.1.kept k hs, h.2.2.2⟩
set_option maxRecDepth 100000 in
/-- What a call does behind one that only made memory. -/
theorem WPost.after {r : Value} {w w1 : World} {base p : Nat} {T : TypeId} {v : Value} {bs : List Int} {e : Ending} {w' : World} (hb : Below w.heap.size w w1) (h : WPost r w1 base p T v bs e w') : WPost r w base p T v bs e w' := by
  obtain ⟨v', h1, h2, h3, h4⟩ := h
  have hs := hb.size
  refine ⟨v', h1, h2, ?_, (Kept.of_below hb _).trans h4⟩
  rcases h3 with h3 | ⟨k, hk, h3⟩
  · exact .inl h3
  · exact .inr ⟨k, by omega, h3⟩
set_option maxRecDepth 100000 in
theorem wvar_yes (base p : Nat) (T : TypeId) (v : Value) (bs : List Int) (x : Int) (w : World) (h : Wtr w base p T v bs) (hl : bs.length ≤ 100000000000000) (h0 : 0 ≤ x) (h1 : x ≤ 4611686018427387903) (hbase : base ≤ w.heap.size) :
    Calls Try.prog 94 #[.pointer (some ⟨p, 0, none⟩), .int .u64 x] w (WPost (.bool true) w base p T v (bs ++ putS x)) := by
  have hpl : ([] ++ putS x).length ≤ 8 := by simp [putS_len]; exact size_le x
  go_enter Try.func94, Try.ntmps94
  go_wp2_with fail
  refine (putvar_yes none 0 0 [] x w (Rd.none_ _ _ _) (by omega) h0 h1).mono ?_
  rintro e w1 ⟨q, rfl, hq, hb⟩
  obtain ⟨A, c, rfl, g1, g2, g3⟩ := hq.open_
  have hsz := hb.size
  have hw1 : Wtr w1 base p T v bs := h.kept (Kept.of_below hb (fun _ => False)) (fun h => h) (fun _ _ h => h)
  clear hq
  go_wp2_with fail
  refine (wraw_any base p T v bs A _ c ([] ++ putS x) w1 hw1 (by omega) g3 (by omega)).mono ?_
  rintro e w2 hw2
  obtain ⟨v', rfl, k1, k2, k3⟩ := WPost.after hb hw2
  go_wp2_with fail
  go_ret
  exact ⟨v', rfl, by simpa using k1, k2, k3⟩
def textB (xs : List Int) : List Int := putS (xs.length : Int) ++ xs
set_option maxRecDepth 100000 in
theorem wtext_any (base p : Nat) (T : TypeId) (v : Value) (bs : List Int) (A : Option Addr) (n c : Nat) (xs : List Int) (w : World) (h : Wtr w base p T v bs) (hl : bs.length ≤ 10000000000000) (hn : n ≤ 10000000000000) (hr : Rd w w.heap.size A n xs) (hrv : ∀ b off, 0 < n → A = some ⟨b, off, none⟩ → ¬ WS p v b) (hbase : base ≤ w.heap.size) :
    Calls Try.prog 85 #[.pointer (some ⟨p, 0, none⟩), .slice A n c] w (WPost (.tuple #[]) w base p T v (bs ++ textB xs)) := by
  have hrp : RdP w (fun b => ¬ WS p v b) A n xs := ⟨hr, hrv⟩
  have e0 := Lib.hid (show (n : Int) = (xs.length : Int) by rw [hr.1])
  have e1 := Lib.hid (show bs ++ putS (n : Int) ++ xs = bs ++ textB xs by unfold textB; rw [e0.out, List.append_assoc])
  have hpl : (bs ++ putS (n : Int)).length ≤ bs.length + 8 := by simp [putS_len]; exact size_le _
  go_enter Try.func85, Try.ntmps85
  go_wp2_with fail
  refine (wvar_yes base p T v bs n w h (by omega) (by omega) (by omega) hbase).mono ?_
  rintro e w1 ⟨v1, rfl, h1, h2, h3⟩
  have hr1 := hrp.kept h3 (fun b hb => hb)
  have hsz := h3.size
  go_wp2_with fail
  refine (wraw_any base p T v1 _ A n c xs w1 h1 (by omega) hr1.1 (by omega)).mono ?_
  rintro e w2 ⟨v2, rfl, g1, g2, g3⟩
  go_wp2_with fail
  go_end0
  refine ⟨v2, rfl, e1.out ▸ g1, ?_, h3.trans' g3 fun j hj => ?_⟩
  · rcases g2 with g2 | ⟨k, hk, g2⟩
    · rcases h2 with h2 | ⟨k, hk, h2⟩
      · exact .inl (g2.trans h2)
      · exact .inr ⟨k, hk, g2.trans h2⟩
    · exact .inr ⟨k, by omega, g2⟩
  · rcases hj with hj | hj
    · exact .inl (.inl hj)
    · rcases h2 with h2 | ⟨k, hk, h2⟩
      · exact .inl (.inr (h2 ▸ hj))
      · rw [h2] at hj; injection hj with hj; omega
set_option maxRecDepth 100000 in
theorem Own.nil_cap {w : World} {base : Nat} {e : TypeId} {n c : Nat} {A : Option Addr} {bs : List Int} (h : Own w base e (.slice A n c) bs) : A = none → c = 0 := by
  intro hA
  subst hA
  rcases h.1.2 with ⟨h, _⟩ | ⟨g, cap, cur, h, _⟩
  · injection h
  · injection h with h; cases h
set_option maxRecDepth 100000 in
theorem wdone_any (base p : Nat) (T : TypeId) (v : Value) (bs : List Int) (w : World) (h : Wtr w base p T v bs) (hl : bs.length ≤ 100000000000000) :
    Calls Try.prog 60 #[.pointer (some ⟨p, 0, none⟩)] w fun e w' => ∃ v', e = .returned v' ∧ Own w' w.heap.size 5 v' bs ∧ Below w.heap.size w w' := by
  have ho := h.2.2.1
  obtain ⟨A, c, rfl, h1, h2, h3⟩ := ho.open_
  have hA := ho.nil_cap
  have c0 := h.1.cell 0
  go_enter Try.func60, Try.ntmps60
  go_wp2_with fail
  refine (clone_any A _ c bs w h3 (by omega) hA).mono ?_
  rintro e w1 ⟨q, rfl, hq, hb⟩
  go_wp2_with fail
  go_ret
  exact ⟨_, rfl, hq, hb⟩
set_option maxRecDepth 100000 in
theorem new_any (w : World) :
    Calls Try.prog 57 #[] w fun e w' => e = .returned (.pointer (some ⟨w.heap.size, 0, none⟩)) ∧ Wtr w' w.heap.size w.heap.size 123 (.slice none 0 0) [] ∧ w.heap.size < w'.heap.size ∧ Below w.heap.size w w' := by
  go_enter Try.func57, Try.ntmps57
  go_wp2
  go_ret
  exact ⟨rfl, ⟨At.new w _ _, Nat.le_refl _, Own.none_ _ _ _, by simp [Value.ownBlock]⟩, by simp, (Below.refl _ _).alloc (Nat.le_refl _) _⟩
end
section
set_option linter.unusedVariables false
set_option linter.unusedSimpArgs false
open Go.RowKit
theorem tk_dst {P : Program} {md : Region.Mode} {ops : Array Oper} {Q : Exit → Act → World → Prop} {S : World → Prop} {i : Nat} {oi : Oper} {dst : Option Tmp} {v : Value} {fuel : Nat} {listed : Array Bool} {a : Act} {w : World} (hi : ops[i]? = some oi) (hd : oi.dst = dst)
    (hs : Region.noSelect ops = true) (hf : Region.free md ops listed i = true) (hr : (Region.ready md ops listed).contains i = true)
    (hQ : ∀ c a w, Q (.panic c) (a.put dst v) w → Q (.panic c) a w) (hy : YieldsIf P ops S oi v a) (hS : S w)
    (h : wpAnyH P md ops Q S fuel (listed.setIfInBounds i true) (a.put dst v) w) : wpAnyH P md ops Q S (fuel + 1) listed a w := by
  subst hd
  exact wpAnyH_take hi hs hf hr hQ hy hS h
theorem yl_any {P : Program} {ops : Array Oper} {S : World → Prop} {op : Oper} {a : Act} (ty : TypeId) (x : Operand) (ho : op.op = .load ty x) (b o : Nat) (hx : a.eval x = .pointer (some ⟨b, o, none⟩)) (L : List Value) (d : TypeDesc) (hS : ∀ w, S w → w.rangeAt b o L)
    (hu : P.underlying ty = some d) (hd : d.isRow = true) (hi : (P.info? ty).map (·.size) = some L.length) (hw : Region.wanted op (yielded ops a.tmps) = true) : YieldsIf P ops S op (.agg L.toArray) a :=
  yieldsIf_load_mid hw _ x ho b o hx L _ hS hu hd hi
theorem step_st_any {P : Program} {ops : Array Oper} {a : Act} {w : World} {K : Act → World → Prop} {Q : Exit → Act → World → Prop} {E : Prop} {dst : Option Tmp} {x y : Operand} {ty t : TypeId} {pos : String} {after : Array Edge} {g : Option (Nat × Bool)}
    (hg : Region.wanted ⟨dst, .store ty x y, t, pos, after, g⟩ (yielded ops a.tmps) = true) (p : Nat) (T : TypeId) (l l' : List Value) (hx : a.eval x = .pointer (some ⟨p, 0, none⟩)) (hy : a.eval y = .agg l'.toArray) (hA : At w p T l) (hl : l.length = l'.length)
    (hi : (P.info? ty).map (·.size) = some l'.length) (h1 : l'.all (·.oneCell') = true) (h : ∀ w', At w' p T l' → Kept (· = p) w w' → K (a.put dst undef) w') :
    if Region.wanted ⟨dst, .store ty x y, t, pos, after, g⟩ (yielded ops a.tmps) = true then Oper.wp P ⟨dst, .store ty x y, t, pos, after, g⟩ a w K Q else E := by
  rw [if_pos hg]
  refine wp_store_mid _ x y rfl p 0 l'.toArray hx hy (by simpa using hA.there _ (by omega)) (by simpa using hi) (by simpa using h1) ?_
  have := At.setFrom l' l 0 w hA
  rw [setFrom_all l l' hl] at this
  exact h _ (by simpa using this) (by simpa using Kept.setCells (S := (· = p)) rfl l' 0 w (Kept.refl _ _))
end
section
set_option linter.unusedVariables false
set_option linter.unusedSimpArgs false
open Go.RowKit
theorem Rdr.cells_ {w : World} {p : Nat} {T : TypeId} {P : Nat → Prop} {s : St} (h : Rdr w p T P s) : ∃ A n c, w.cell? ⟨p, 0, none⟩ = some (.slice A n c) ∧ n = s.1.length ∧ n ≤ c ∧ c ≤ maxLen ∧ w.cell? ⟨p, 1, none⟩ = some (.bool s.2) := by
  obtain ⟨A, n, c, h1, h2, h3, h4, h5, h6⟩ := h
  exact ⟨A, n, c, h1.cell 0, h5.1.1.symm, h2, h3, h1.cell 1⟩
theorem Own.inD_ {w : World} {base n c : Nat} {e : TypeId} {A : Option Addr} {bs : List Int} (h : Own w base e (.slice A n c) bs) (hn : bs.length = n) : InD w (fun b => base ≤ b) ⟨A, n, c⟩ bs := by
  subst hn
  obtain ⟨A', c', hv, h1, h2, h3⟩ := h.open_
  injection hv with e1 e2 e3
  subst e1; subst e3
  refine ⟨⟨h3, fun b off hn hA => ?_⟩, h1, h2, fun hA => h.nil_cap hA⟩
  simp only at hA
  exact (h.block_lt b (by rw [hA]; rfl)).1
theorem results_cell_tmp3 {P : Program} {w : World} {fn : Func} {tmps : Array Value} (s t t' t'' : Tmp) (ty : TypeId) (hr : fn.results = #[.cell s ty, .tmp t, .tmp t', .tmp t'']) (p : Nat) (T : TypeId) (l : List Value) (d : TypeDesc) (v v' v'' : Value) (hs : tmps.getD s undef = .pointer (some ⟨p, 0, none⟩)) (ht : tmps.getD t undef = v) (ht' : tmps.getD t' undef = v') (ht'' : tmps.getD t'' undef = v'') (hA : At w p T l)
    (hu : P.underlying ty = some d) (hd : d.isRow = true) (hi : (P.info? ty).map (·.size) = some l.length) : (results fn tmps).run P w = .ok (.tuple #[.agg l.toArray, v, v', v'']) w := by
  have h := run_loadVar_mid (P := P) w p 0 ty l d hA.rangeAt hu hd hi
  rw [Array.getD_eq_getD_getElem?] at hs ht ht' ht''
  simp [results, hr, hs, ht, ht', ht'', asAddr, h]
end
section
set_option linter.unusedVariables false
open Go.RowKit
theorem Rd.cut {w : World} {B n : Nat} {A : Option Addr} {bs : List Int} (h : Rd w B A n bs) {m : Nat} (hm : m ≤ n) : Rd w B A m (bs.take m) := by
  refine ⟨by rw [List.length_take, h.1]; omega, h.2.1.take m, fun hp => ?_⟩
  obtain ⟨b, off, e, hb, hc⟩ := h.2.2 (by omega)
  refine ⟨b, off, e, hb, fun i hi => ?_⟩
  rw [hc i (by omega), List.getD_eq_getElem?_getD, List.getD_eq_getElem?_getD, List.getElem?_take_of_lt hi]
end
section
set_option linter.unusedVariables false
set_option linter.unusedSimpArgs false
open Go.RowKit
theorem InD.below_ {w w' : World} {P : Nat → Prop} {d : Sl} {ds : List Int} (h : InD w P d ds) (k : Below w.heap.size w w') : InD w' P d ds := h.kept (Kept.of_below k (fun _ => False)) (fun _ _ h => h)
theorem At.of_below {w w' : World} {p : Nat} {T : TypeId} {l : List Value} (h : At w p T l) (k : Below w.heap.size w w') : At w' p T l := h.below k h.lt
theorem Own.place {w : World} {base : Nat} {e : TypeId} {v : Value} {bs : List Int} (h : Own w base e v bs) (hp : 0 < bs.length) :
    ∃ g c l, v = .slice (some ⟨g, 0, none⟩) bs.length c ∧ At w g e l ∧ l.length = c ∧ l.take bs.length = bs.map (Value.int .u8) ∧ base ≤ g ∧ bs.length ≤ c ∧ c ≤ maxLen := by
  rcases h.1.2 with ⟨_, h0⟩ | ⟨g, cap, cur, hv, hbg, hg, hnc, hcm, hcs, htake⟩
  · omega
  · exact ⟨g, cap, cur.toList, hv, hg, by simp; omega, by simpa using htake, hbg, hnc, hcm⟩
theorem place_cell {w : World} {g : Nat} {e : TypeId} {l : List Value} {bs : List Int} (h : At w g e l) (ht : l.take bs.length = bs.map (Value.int .u8)) (i : Nat) (x : Int) (hx : bs[i]? = some x) : w.cell? ⟨g, i, none⟩ = some (.int .u8 x) := by
  rw [h.cell]
  have hi : i < bs.length := (List.getElem?_eq_some_iff.1 hx).1
  rw [← List.getElem?_take_of_lt hi, ht, List.getElem?_map, hx]
  rfl
theorem place_set {w : World} {g base : Nat} {e : TypeId} {l : List Value} {bs : List Int} {c : Nat} (h : At w g e l) (hl : l.length = c) (ht : l.take bs.length = bs.map (Value.int .u8)) (hb : Byt bs) (hbg : base ≤ g) (hn : bs.length ≤ c) (hc : c ≤ maxLen) (i : Nat) (y : Int) (hy : 0 ≤ y ∧ y < 256) :
    Own (w.setCell ⟨g, i, none⟩ (.int .u8 y)) base e (.slice (some ⟨g, 0, none⟩) bs.length c) (bs.set i y) := by
  refine Own.of_block ?_ (by simp) (h.set i (.int .u8 y)) hbg hn hc (by simp [hl]) ?_
  · intro z hz
    rcases List.mem_or_eq_of_mem_set hz with hz | hz
    · exact hb z hz
    · rw [hz]; exact hy
  · show (l.set i (.int .u8 y)).take bs.length = _
    rw [List.take_set, ht, List.map_set]
end
section
set_option linter.unusedVariables false
set_option linter.unusedSimpArgs false
open Go.RowKit
def xorB (a b : Int) : Int := bits BinOp.xor IntKind.u8 a b
theorem xorB_bd (a b : Int) : 0 ≤ xorB a b ∧ xorB a b < 256 := u8_bits_bd _ _ _
/-- Block i of the row that key and n make. -/
def blkS (key n : Int) (i : Nat) : N8 := b8 (keyedS key (beS 8 n ++ beS 8 i))
def rowX (key n : Int) (i : Nat) : Int := (blkS key n (i / 8)).l.getD (i % 8) 0
theorem rowX_bd (key n : Int) (i : Nat) : 0 ≤ rowX key n i ∧ rowX key n i < 256 := (b8_byt _).getD _
def turnS (key n : Int) (bs : List Int) : List Int := bs.mapIdx fun i x => xorB x (rowX key n i)
theorem turnS_len (key n : Int) (bs : List Int) : (turnS key n bs).length = bs.length := by simp [turnS]
theorem turnS_at (key n : Int) (bs : List Int) (i : Nat) (hi : i < bs.length) : (turnS key n bs)[i]? = some (xorB (bs.getD i 0) (rowX key n i)) := by
  simp [turnS, List.getElem?_mapIdx, List.getElem?_eq_getElem hi, List.getD_eq_getElem?_getD]
theorem turnS_step (key n : Int) (bs : List Int) (k : Nat) (hk : k < bs.length) : (turnS key n bs).take (k + 1) = (turnS key n bs).take k ++ [xorB (bs.getD k 0) (rowX key n k)] := by
  have h := turnS_at key n bs k hk
  rw [List.take_add_one, h]
  rfl
theorem xorB_xorB (a b : Int) (h0 : 0 ≤ a) (h1 : a < 256) (k0 : 0 ≤ b) (k1 : b < 256) : xorB (xorB a b) b = a := by
  have hb := xorB_bd a b
  unfold xorB at *
  rw [u8_xor _ _ hb.1 hb.2 k0 k1, u8_xor _ _ h0 h1 k0 k1, Int.toNat_natCast, Nat.xor_assoc, Nat.xor_self, Nat.xor_zero]
  omega
theorem turnS_turnS (key n : Int) (bs : List Int) (hb : Byt bs) : turnS key n (turnS key n bs) = bs := by
  apply List.ext_getElem?
  intro i
  rcases Nat.lt_or_ge i bs.length with h | h
  · rw [turnS_at _ _ _ _ (by rw [turnS_len]; exact h), List.getD_eq_getElem?_getD, turnS_at key n bs i h, List.getElem?_eq_getElem h]
    have h1 := hb.getD i
    have h2 := rowX_bd key n i
    simp only [Option.getD_some]
    rw [xorB_xorB _ _ h1.1 h1.2 h2.1 h2.2, List.getD_eq_getElem?_getD, List.getElem?_eq_getElem h]
    rfl
  · rw [List.getElem?_eq_none (by rw [turnS_len, turnS_len]; exact h), List.getElem?_eq_none h]
def tagKey (key : Int) : Int := keyedS key [116, 97, 103]
theorem keyedS_bd (key : Int) (bs : List Int) : 0 ≤ keyedS key bs ∧ keyedS key bs < 18446744073709551616 := endS_bd _
/-- The tag. -/
def tagS (key n : Int) (head hidden : List Int) : N8 := b8 (keyedS (tagKey key) (beS 8 n ++ beS 8 head.length ++ head ++ hidden))
theorem tagS_byt (key n : Int) (head hidden : List Int) : Byt (tagS key n head hidden).l := b8_byt _
def sealS (key n : Int) (head body : List Int) : List Int := turnS key n body ++ (tagS key n head (turnS key n body)).l
theorem sealS_len (key n : Int) (head body : List Int) : (sealS key n head body).length = body.length + 8 := by
  unfold sealS; rw [List.length_append, turnS_len]; rfl
def openB (key n : Int) (head sealed : List Int) : Bool := decide (8 ≤ sealed.length) && n8B (N8.of (sealed.drop (sealed.length - 8))) (tagS key n head (sealed.take (sealed.length - 8)))
def openS (key n : Int) (head sealed : List Int) : List Int := if openB key n head sealed then turnS key n (sealed.take (sealed.length - 8)) else []
theorem open_seal (key n : Int) (head body : List Int) (hb : Byt body) : openB key n head (sealS key n head body) = true ∧ openS key n head (sealS key n head body) = body := by
  have h1 : (sealS key n head body).take ((sealS key n head body).length - 8) = turnS key n body := by
    rw [sealS_len]; unfold sealS
    rw [List.take_append_of_le_length (by rw [turnS_len]; omega), List.take_of_length_le (by rw [turnS_len]; omega)]
  have h2 : (sealS key n head body).drop ((sealS key n head body).length - 8) = (tagS key n head (turnS key n body)).l := by
    rw [sealS_len]; unfold sealS
    rw [List.drop_append, List.drop_eq_nil_of_le (by rw [turnS_len]; omega), turnS_len, Nat.add_sub_cancel, Nat.sub_self]; rfl
  have h3 : openB key n head (sealS key n head body) = true := by
    unfold openB
    rw [h1, h2, sealS_len, N8.of_l, n8B_refl]
    simp
  refine ⟨h3, ?_⟩
  unfold openS
  rw [if_pos h3, h1, turnS_turnS _ _ _ hb]
set_option maxRecDepth 100000 in
theorem derive_any (key : Int) (bs : List Int) (w : World) (hb : Byt bs) (hl : bs.length ≤ maxLen) (k0 : 0 ≤ key) (k1 : key < 18446744073709551616) :
    Calls Try.prog 29 #[.int .u64 key, .string (strOfNums bs)] w fun e w' => e = .returned (.int .u64 (keyedS key bs)) ∧ Below w.heap.size w w' := by
  obtain ⟨T, hT⟩ : ∃ x, strOfNums bs = x := ⟨_, rfl⟩
  rw [hT]
  go_enter Try.func29, Try.ntmps29
  go_wp2_with (first | (refine wpList_str_bytes (by rfl) 9 28 5 (.tmp 6) rfl bs hb hl Try.underlying9 Try.underlying28 Try.underlying5 (by rw [hT]; rfl) ?_; intro w1 c hc1 hc2 hr1 hb1 hs1) | (go_at_call 55; refine (keyed_any key _ _ c bs w1 _ hr1 hc1 hc2 k0 k1).mono ?_; rintro e w' ⟨rfl, rfl⟩))
  go_ret
  exact ⟨rfl, hb1⟩
set_option maxRecDepth 100000 in
theorem rderive_any (key : Int) (bs : List Int) (w : World) (hb : Byt bs) (hl : bs.length ≤ maxLen) (k0 : 0 ≤ key) (k1 : key < 18446744073709551616) :
    Calls Try.prog 19 #[.int .u64 key, .string (strOfNums bs)] w fun e w' => e = .returned (.int .u64 (keyedS key bs)) ∧ Below w.heap.size w w' := by
  obtain ⟨T, hT⟩ : ∃ x, strOfNums bs = x := ⟨_, rfl⟩
  rw [hT]
  go_enter Try.func19, Try.ntmps19
  go_wp2_with (first | (refine wpList_str_bytes (by rfl) 9 28 5 (.tmp 6) rfl bs hb hl Try.underlying9 Try.underlying28 Try.underlying5 (by rw [hT]; rfl) ?_; intro w1 c hc1 hc2 hr1 hb1 hs1) | (go_at_call 43; refine (rkeyed_any key _ _ c bs w1 _ hr1 hc1 hc2 k0 k1).mono ?_; rintro e w' ⟨rfl, rfl⟩))
  go_ret
  exact ⟨rfl, hb1⟩
end
end Go.Proofs.Ytehdilgnlhhjdaa
