/-
  Package octet's Writer: what each call writes behind whatever was written. Condition: fewer than 2^46 bytes in all.
-/
import Derived.Test.YtehdilgnlhhjdaaMq2
import Derived.Test.YtehdilgnlhhjdaaProg
import Derived.Test.YtehdilgnlhhjdaaMq3
import Derived.Deep.RegionHeld
import Derived.Test.YtehdilgnlhhjdaaMq1
import Derived.Deep.QuietTactic
import Derived.BigQuiet
import Derived.Deep.RegionHeld3
import Derived.WalkSpells
import Derived.IntWalk
namespace Go.Proofs.Ytehdilgnlhhjdaa
section
set_option linter.unusedVariables false
open Go.RowKit
def Wtr (w : World) (base p : Nat) (T : TypeId) (v : Value) (bs : List Int) : Prop :=
  At w p T [v] ∧ base ≤ p ∧ Own w base 5 v bs ∧ v.ownBlock ≠ some p
/-- Only block p, and the row that it held, may have turned. -/
abbrev WS (p : Nat) (v : Value) : Nat → Prop := fun j => j = p ∨ v.ownBlock = some j
def WPost (r : Value) (w : World) (base p : Nat) (T : TypeId) (v : Value) (bs : List Int) (e : Ending) (w' : World) : Prop :=
  ∃ v', e = .returned r ∧ Wtr w' base p T v' bs ∧ (v'.ownBlock = v.ownBlock ∨ ∃ k, w.heap.size ≤ k ∧ v'.ownBlock = some k) ∧ Kept (WS p v) w w'
set_option maxRecDepth 100000 in
theorem Own.shape {w : World} {base : Nat} {e : TypeId} {v : Value} {bs : List Int} (h : Own w base e v bs) : ∃ A n c, v = .slice A n c := by
  obtain ⟨A, c, h, _⟩ := h.open_
  exact ⟨A, _, c, h⟩
set_option maxRecDepth 100000 in
/-- What append leaves, and the store behind it. -/
theorem Wtr.put {w w1 w2 : World} {base p : Nat} {T : TypeId} {v v' : Value} {bs bs' : List Int} (h : Wtr w base p T v bs) (hw1 : Below w.heap.size w w1) (hown : Own w2 base 5 v' bs') (hg : w1.grownBy w2 v.ownBlock)
    (hv : v'.ownBlock = v.ownBlock ∨ v'.ownBlock = some w1.heap.size) :
    Wtr (w2.setCell ⟨p, 0, none⟩ v') base p T v' bs' ∧ (v'.ownBlock = v.ownBlock ∨ ∃ k, w.heap.size ≤ k ∧ v'.ownBlock = some k) ∧ Kept (WS p v) w (w2.setCell ⟨p, 0, none⟩ v') ∧ w2.cell? ⟨p, 0, none⟩ = some v ∧ w2.frozen? ⟨p, 0, none⟩ = false := by
  obtain ⟨hA, hbp, ho, hne⟩ := h
  have hlt := hA.lt
  have hsz := hw1.size
  have k1 : Kept (WS p v) w w1 := Kept.of_below hw1 _
  have k2 : Kept (fun j => v.ownBlock = some j) w1 w2 := Kept.of_grown hg (fun k hk => .inl hk)
  have A1 : At w1 p T [v] := hA.below hw1 hlt
  have A2 : At w2 p T [v] := A1.kept k2 hne
  have hne' : v'.ownBlock ≠ some p := by
    rcases hv with h | h
    · rw [h]; exact hne
    · rw [h]; intro e; injection e; omega
  have kk : Kept (WS p v) w w2 := k1.trans' k2 fun j hj => .inl (.inr hj)
  refine ⟨⟨A2.set 0 v', hbp, hown.kept ((Kept.refl (· = p) _).setAt 0 v') (fun j hj e => hne' (by rw [hj, e])), hne'⟩, ?_, kk.setCell (.inl (.inl rfl)) _, A2.cell 0, A2.frozen 0⟩
  rcases hv with h | h
  · exact .inl h
  · exact .inr ⟨_, hsz, h⟩
set_option maxRecDepth 100000 in
theorem wbyte_any (base p : Nat) (T : TypeId) (v : Value) (bs : List Int) (x : Int) (w : World) (h : Wtr w base p T v bs) (hl : bs.length ≤ 100000000000000) (h0 : 0 ≤ x) (h1 : x < 256) (hbase : base ≤ w.heap.size) :
    Calls Try.prog 82 #[.pointer (some ⟨p, 0, none⟩), .int .u8 x] w (WPost (.tuple #[]) w base p T v (bs ++ [x])) := by
  obtain ⟨i0, hi, hz0, hz1, hz2⟩ := info_parts u8_info
  have c0 := h.1.cell 0
  go_enter Try.func82, Try.ntmps82
  go_wp2_with (at_builtin; refine wpList_append_at rfl (.tmp 8) (.tmp 10) 28 rfl base 5 i0 Try.underlying28 hi hz0 hz1 hz2 _ bs rfl (h.2.2.1.alloc _) _ _ 1 1 [x] rfl (Rd.byte w 5 _ rfl x ⟨h0, h1⟩) (by omega) (by simp; omega) ?_; intro v' w2 hown2 hgr2 hv2; obtain ⟨A', n', c', rfl⟩ := hown2.shape; obtain ⟨P1, P2, P3, P4, P5⟩ := h.put ((Below.refl _ _).alloc (Nat.le_refl _) _) hown2 hgr2 hv2; have P1' := Lib.hid P1; have P2' := Lib.hid P2; clear P1 P2 hgr2 hv2)
  go_end0
  exact ⟨_, rfl, P1'.out, P2'.out, P3⟩
def twoB (n : Int) : List Int := [n / 256, n % 256]
set_option maxRecDepth 100000 in
theorem wtwo_any (base p : Nat) (T : TypeId) (v : Value) (bs : List Int) (x : Int) (w : World) (h : Wtr w base p T v bs) (hl : bs.length ≤ 100000000000000) (h0 : 0 ≤ x) (h1 : x < 65536) (hbase : base ≤ w.heap.size) :
    Calls Try.prog 84 #[.pointer (some ⟨p, 0, none⟩), .int .u16 x] w (WPost (.tuple #[]) w base p T v (bs ++ twoB x)) := by
  obtain ⟨i0, hi, hz0, hz1, hz2⟩ := info_parts u8_info
  have c0 := h.1.cell 0
  have e1 : IntKind.u8.wrap (x / 256) = x / 256 := by rw [IntKind.wrap_u8]; omega
  have e2 : IntKind.u8.wrap x = x % 256 := by rw [IntKind.wrap_u8]
  have hby : Byt [x / 256, x % 256] := fun y hy => by simp at hy; omega
  go_enter Try.func84, Try.ntmps84
  go_wp2_with (at_builtin; refine wpList_append_at rfl (.tmp 8) (.tmp 14) 28 rfl base 5 i0 Try.underlying28 hi hz0 hz1 hz2 _ bs rfl (h.2.2.1.alloc _) _ _ 2 2 [x / 256, x % 256] rfl (Rd.lit w 5 _ hby _ rfl) (by omega) (by simp; omega) ?_; intro v' w2 hown2 hgr2 hv2; obtain ⟨A', n', c', rfl⟩ := hown2.shape; obtain ⟨P1, P2, P3, P4, P5⟩ := h.put ((Below.refl _ _).alloc (Nat.le_refl _) _) hown2 hgr2 hv2; have P1' := Lib.hid P1; have P2' := Lib.hid P2; clear P1 P2 hgr2 hv2)
  go_end0
  exact ⟨_, rfl, P1'.out, P2'.out, P3⟩
set_option maxRecDepth 100000 in
theorem wraw_any (base p : Nat) (T : TypeId) (v : Value) (bs : List Int) (A : Option Addr) (n c : Nat) (xs : List Int) (w : World) (h : Wtr w base p T v bs) (hl : bs.length + n ≤ 140737488355000) (hr : Rd w w.heap.size A n xs) (hbase : base ≤ w.heap.size) :
    Calls Try.prog 83 #[.pointer (some ⟨p, 0, none⟩), .slice A n c] w (WPost (.tuple #[]) w base p T v (bs ++ xs)) := by
  obtain ⟨i0, hi, hz0, hz1, hz2⟩ := info_parts u8_info
  have c0 := h.1.cell 0
  go_enter Try.func83, Try.ntmps83
  go_wp2_with (at_builtin; refine wpList_append_at rfl (.tmp 8) (.tmp 9) 28 rfl base 5 i0 Try.underlying28 hi hz0 hz1 hz2 _ bs rfl h.2.2.1 _ A n c xs rfl hr (by omega) hbase ?_; intro v' w2 hown2 hgr2 hv2; obtain ⟨A', n', c', rfl⟩ := hown2.shape; obtain ⟨P1, P2, P3, P4, P5⟩ := h.put (Below.refl _ _) hown2 hgr2 hv2; have P1' := Lib.hid P1; have P2' := Lib.hid P2; clear P1 P2 hgr2 hv2)
  go_end0
  exact ⟨_, rfl, P1'.out, P2'.out, P3⟩
set_option maxRecDepth 100000 in
theorem Wtr.kept {S : Nat → Prop} {w w' : World} {base p : Nat} {T : TypeId} {v : Value} {bs : List Int} (h : Wtr w base p T v bs) (k : Kept S w w') (hp : ¬ S p) (hs : ∀ j, v.ownBlock = some j → ¬ S j) : Wtr w' base p T v bs :=
  ⟨h.1.kept k hp, h.2.1, h.2.2.1.kept k hs, h.2.2.2⟩
set_option maxRecDepth 100000 in
/-- What a call does behind one that only made memory. -/
theorem WPost.after {r : Value} {w w1 : World} {base p : Nat} {T : TypeId} {v : Value} {bs : List Int} {e : Ending} {w' : World} (hb : Below w.heap.size w w1) (h : WPost r w1 base p T v bs e w') : WPost r w base p T v bs e w' := by
  obtain ⟨v', h1, h2, h3, h4⟩ := h
  have hs := hb.size
  refine ⟨v', h1, h2, ?_, (Kept.of_below hb _).trans h4⟩
  rcases h3 with h3 | ⟨k, hk, h3⟩
  · exact .inl h3
  · exact .inr ⟨k, by omega, h3⟩
set_option maxRecDepth 100000 in
theorem wvar_yes (base p : Nat) (T : TypeId) (v : Value) (bs : List Int) (x : Int) (w : World) (h : Wtr w base p T v bs) (hl : bs.length ≤ 100000000000000) (h0 : 0 ≤ x) (h1 : x ≤ 4611686018427387903) (hbase : base ≤ w.heap.size) :
    Calls Try.prog 94 #[.pointer (some ⟨p, 0, none⟩), .int .u64 x] w (WPost (.bool true) w base p T v (bs ++ putS x)) := by
  have hpl : ([] ++ putS x).length ≤ 8 := by simp [putS_len]; exact size_le x
  go_enter Try.func94, Try.ntmps94
  go_wp2_with fail
  refine (putvar_yes none 0 0 [] x w (Rd.none_ _ _ _) (by omega) h0 h1).mono ?_
  rintro e w1 ⟨q, rfl, hq, hb⟩
  obtain ⟨A, c, rfl, g1, g2, g3⟩ := hq.open_
  have hsz := hb.size
  have hw1 : Wtr w1 base p T v bs := h.kept (Kept.of_below hb (fun _ => False)) (fun h => h) (fun _ _ h => h)
  clear hq
  go_wp2_with fail
  refine (wraw_any base p T v bs A _ c ([] ++ putS x) w1 hw1 (by omega) g3 (by omega)).mono ?_
  rintro e w2 hw2
  obtain ⟨v', rfl, k1, k2, k3⟩ := WPost.after hb hw2
  go_wp2_with fail
  go_ret
  exact ⟨v', rfl, by simpa using k1, k2, k3⟩
def textB (xs : List Int) : List Int := putS (xs.length : Int) ++ xs
set_option maxRecDepth 100000 in
theorem wtext_any (base p : Nat) (T : TypeId) (v : Value) (bs : List Int) (A : Option Addr) (n c : Nat) (xs : List Int) (w : World) (h : Wtr w base p T v bs) (hl : bs.length ≤ 10000000000000) (hn : n ≤ 10000000000000) (hr : Rd w w.heap.size A n xs) (hrv : ∀ b off, 0 < n → A = some ⟨b, off, none⟩ → ¬ WS p v b) (hbase : base ≤ w.heap.size) :
    Calls Try.prog 85 #[.pointer (some ⟨p, 0, none⟩), .slice A n c] w (WPost (.tuple #[]) w base p T v (bs ++ textB xs)) := by
  have hrp : RdP w (fun b => ¬ WS p v b) A n xs := ⟨hr, hrv⟩
  have e0 := Lib.hid (show (n : Int) = (xs.length : Int) by rw [hr.1])
  have e1 := Lib.hid (show bs ++ putS (n : Int) ++ xs = bs ++ textB xs by unfold textB; rw [e0.out, List.append_assoc])
  have hpl : (bs ++ putS (n : Int)).length ≤ bs.length + 8 := by simp [putS_len]; exact size_le _
  go_enter Try.func85, Try.ntmps85
  go_wp2_with fail
  refine (wvar_yes base p T v bs n w h (by omega) (by omega) (by omega) hbase).mono ?_
  rintro e w1 ⟨v1, rfl, h1, h2, h3⟩
  have hr1 := hrp.kept h3 (fun b hb => hb)
  have hsz := h3.size
  go_wp2_with fail
  refine (wraw_any base p T v1 _ A n c xs w1 h1 (by omega) hr1.1 (by omega)).mono ?_
  rintro e w2 ⟨v2, rfl, g1, g2, g3⟩
  go_wp2_with fail
  go_end0
  refine ⟨v2, rfl, e1.out ▸ g1, ?_, h3.trans' g3 fun j hj => ?_⟩
  · rcases g2 with g2 | ⟨k, hk, g2⟩
    · rcases h2 with h2 | ⟨k, hk, h2⟩
      · exact .inl (g2.trans h2)
      · exact .inr ⟨k, hk, g2.trans h2⟩
    · exact .inr ⟨k, by omega, g2⟩
  · rcases hj with hj | hj
    · exact .inl (.inl hj)
    · rcases h2 with h2 | ⟨k, hk, h2⟩
      · exact .inl (.inr (h2 ▸ hj))
      · rw [h2] at hj; injection hj with hj; omega
set_option maxRecDepth 100000 in
theorem Own.nil_cap {w : World} {base : Nat} {e : TypeId} {n c : Nat} {A : Option Addr} {bs : List Int} (h : Own w base e (.slice A n c) bs) : A = none → c = 0 := by
  intro hA
  subst hA
  rcases h.1.2 with ⟨h, _⟩ | ⟨g, cap, cur, h, _⟩
  · injection h
  · injection h with h; cases h
set_option maxRecDepth 100000 in
theorem wdone_any (base p : Nat) (T : TypeId) (v : Value) (bs : List Int) (w : World) (h : Wtr w base p T v bs) (hl : bs.length ≤ 100000000000000) :
    Calls Try.prog 60 #[.pointer (some ⟨p, 0, none⟩)] w fun e w' => ∃ v', e = .returned v' ∧ Own w' w.heap.size 5 v' bs ∧ Below w.heap.size w w' := by
  have ho := h.2.2.1
  obtain ⟨A, c, rfl, h1, h2, h3⟩ := ho.open_
  have hA := ho.nil_cap
  have c0 := h.1.cell 0
  go_enter Try.func60, Try.ntmps60
  go_wp2_with fail
  refine (clone_any A _ c bs w h3 (by omega) hA).mono ?_
  rintro e w1 ⟨q, rfl, hq, hb⟩
  go_wp2_with fail
  go_ret
  exact ⟨_, rfl, hq, hb⟩
set_option maxRecDepth 100000 in
theorem new_any (w : World) :
    Calls Try.prog 57 #[] w fun e w' => e = .returned (.pointer (some ⟨w.heap.size, 0, none⟩)) ∧ Wtr w' w.heap.size w.heap.size 123 (.slice none 0 0) [] ∧ w.heap.size < w'.heap.size ∧ Below w.heap.size w w' := by
  go_enter Try.func57, Try.ntmps57
  go_wp2
  go_ret
  exact ⟨rfl, ⟨At.new w _ _, Nat.le_refl _, Own.none_ _ _ _, by simp [Value.ownBlock]⟩, by simp, (Below.refl _ _).alloc (Nat.le_refl _) _⟩
end
section
set_option linter.unusedVariables false
set_option linter.unusedSimpArgs false
open Go.RowKit
theorem tk_dst {P : Program} {md : Region.Mode} {ops : Array Oper} {Q : Exit → Act → World → Prop} {S : World → Prop} {i : Nat} {oi : Oper} {dst : Option Tmp} {v : Value} {fuel : Nat} {listed : Array Bool} {a : Act} {w : World} (hi : ops[i]? = some oi) (hd : oi.dst = dst)
    (hs : Region.noSelect ops = true) (hf : Region.free md ops listed i = true) (hr : (Region.ready md ops listed).contains i = true)
    (hQ : ∀ c a w, Q (.panic c) (a.put dst v) w → Q (.panic c) a w) (hy : YieldsIf P ops S oi v a) (hS : S w)
    (h : wpAnyH P md ops Q S fuel (listed.setIfInBounds i true) (a.put dst v) w) : wpAnyH P md ops Q S (fuel + 1) listed a w := by
  subst hd
  exact wpAnyH_take hi hs hf hr hQ hy hS h
theorem yl_any {P : Program} {ops : Array Oper} {S : World → Prop} {op : Oper} {a : Act} (ty : TypeId) (x : Operand) (ho : op.op = .load ty x) (b o : Nat) (hx : a.eval x = .pointer (some ⟨b, o, none⟩)) (L : List Value) (d : TypeDesc) (hS : ∀ w, S w → w.rangeAt b o L)
    (hu : P.underlying ty = some d) (hd : d.isRow = true) (hi : (P.info? ty).map (·.size) = some L.length) (hw : Region.wanted op (yielded ops a.tmps) = true) : YieldsIf P ops S op (.agg L.toArray) a :=
  yieldsIf_load_mid hw _ x ho b o hx L _ hS hu hd hi
theorem step_st_any {P : Program} {ops : Array Oper} {a : Act} {w : World} {K : Act → World → Prop} {Q : Exit → Act → World → Prop} {E : Prop} {dst : Option Tmp} {x y : Operand} {ty t : TypeId} {pos : String} {after : Array Edge} {g : Option (Nat × Bool)}
    (hg : Region.wanted ⟨dst, .store ty x y, t, pos, after, g⟩ (yielded ops a.tmps) = true) (p : Nat) (T : TypeId) (l l' : List Value) (hx : a.eval x = .pointer (some ⟨p, 0, none⟩)) (hy : a.eval y = .agg l'.toArray) (hA : At w p T l) (hl : l.length = l'.length)
    (hi : (P.info? ty).map (·.size) = some l'.length) (h1 : l'.all (·.oneCell') = true) (h : ∀ w', At w' p T l' → Kept (· = p) w w' → K (a.put dst undef) w') :
    if Region.wanted ⟨dst, .store ty x y, t, pos, after, g⟩ (yielded ops a.tmps) = true then Oper.wp P ⟨dst, .store ty x y, t, pos, after, g⟩ a w K Q else E := by
  rw [if_pos hg]
  refine wp_store_mid _ x y rfl p 0 l'.toArray hx hy (by simpa using hA.there _ (by omega)) (by simpa using hi) (by simpa using h1) ?_
  have := At.setFrom l' l 0 w hA
  rw [setFrom_all l l' hl] at this
  exact h _ (by simpa using this) (by simpa using Kept.setCells (S := (· = p)) rfl l' 0 w (Kept.refl _ _))
end
section
set_option linter.unusedVariables false
set_option linter.unusedSimpArgs false
open Go.RowKit
theorem Own.inD_ {w : World} {base n c : Nat} {e : TypeId} {A : Option Addr} {bs : List Int} (h : Own w base e (.slice A n c) bs) (hn : bs.length = n) : InD w (fun b => base ≤ b) ⟨A, n, c⟩ bs := by
  subst hn
  obtain ⟨A', c', hv, h1, h2, h3⟩ := h.open_
  injection hv with e1 e2 e3
  subst e1; subst e3
  refine ⟨⟨h3, fun b off hn hA => ?_⟩, h1, h2, fun hA => h.nil_cap hA⟩
  simp only at hA
  exact (h.block_lt b (by rw [hA]; rfl)).1
theorem results_cell_tmp3 {P : Program} {w : World} {fn : Func} {tmps : Array Value} (s t t' t'' : Tmp) (ty : TypeId) (hr : fn.results = #[.cell s ty, .tmp t, .tmp t', .tmp t'']) (p : Nat) (T : TypeId) (l : List Value) (d : TypeDesc) (v v' v'' : Value) (hs : tmps.getD s undef = .pointer (some ⟨p, 0, none⟩)) (ht : tmps.getD t undef = v) (ht' : tmps.getD t' undef = v') (ht'' : tmps.getD t'' undef = v'') (hA : At w p T l)
    (hu : P.underlying ty = some d) (hd : d.isRow = true) (hi : (P.info? ty).map (·.size) = some l.length) : (results fn tmps).run P w = .ok (.tuple #[.agg l.toArray, v, v', v'']) w := by
  have h := run_loadVar_mid (P := P) w p 0 ty l d hA.rangeAt hu hd hi
  rw [Array.getD_eq_getD_getElem?] at hs ht ht' ht''
  simp [results, hr, hs, ht, ht', ht'', asAddr, h]
end
section
set_option linter.unusedVariables false
open Go.RowKit
/-- A head's numbers: space, to, from, width, phase. -/
structure HN where
  s : Int
  t : N8
  f : N8
  w : Int
  ph : Bool
def HN.zero : HN := ⟨0, .zero, .zero, 0, false⟩
def hdL (m : HN) (d : Sl) : List Value := [.int .i64 m.s, .int .u8 m.t.a0, .int .u8 m.t.a1, .int .u8 m.t.a2, .int .u8 m.t.a3, .int .u8 m.t.a4, .int .u8 m.t.a5, .int .u8 m.t.a6, .int .u8 m.t.a7,
  .int .u8 m.f.a0, .int .u8 m.f.a1, .int .u8 m.f.a2, .int .u8 m.f.a3, .int .u8 m.f.a4, .int .u8 m.f.a5, .int .u8 m.f.a6, .int .u8 m.f.a7, .slice d.A d.n d.c, .int .i64 m.w, .bool m.ph]
def hdV (m : HN) (d : Sl) : Value := .agg (hdL m d).toArray
structure HN.wf (m : HN) : Prop where
  s0 : -9223372036854775808 ≤ m.s
  s1 : m.s ≤ 9223372036854775807
  w0 : -9223372036854775808 ≤ m.w
  w1 : m.w ≤ 9223372036854775807
  tb : Byt m.t.l
  fb : Byt m.f.l
/-- A name in a head's block reads as its bytes. -/
theorem to_rd (m : HN) (d : Sl) {w : World} {g : Nat} (h : At w g 30 (hdL m d)) (hc : Byt m.t.l) : Rd w w.heap.size (some ⟨g, 1, none⟩) 8 m.t.l := by
  refine ⟨rfl, hc, fun _ => ⟨g, 1, rfl, h.lt, fun i hi => ?_⟩⟩
  rw [h.cell]
  have : i = 0 ∨ i = 1 ∨ i = 2 ∨ i = 3 ∨ i = 4 ∨ i = 5 ∨ i = 6 ∨ i = 7 := by omega
  rcases this with rfl | rfl | rfl | rfl | rfl | rfl | rfl | rfl <;> rfl
theorem from_rd (m : HN) (d : Sl) {w : World} {g : Nat} (h : At w g 30 (hdL m d)) (hc : Byt m.f.l) : Rd w w.heap.size (some ⟨g, 9, none⟩) 8 m.f.l := by
  refine ⟨rfl, hc, fun _ => ⟨g, 9, rfl, h.lt, fun i hi => ?_⟩⟩
  rw [h.cell]
  have : i = 0 ∨ i = 1 ∨ i = 2 ∨ i = 3 ∨ i = 4 ∨ i = 5 ∨ i = 6 ∨ i = 7 := by omega
  rcases this with rfl | rfl | rfl | rfl | rfl | rfl | rfl | rfl <;> rfl
section
variable {ops : Array Oper} {rest : List Oper} {a : Act} {w : World} {Q : Exit → Act → World → Prop} {dst : Option Tmp} {x y : Operand} {t : TypeId} {pos : String} {after : Array Edge}
theorem ld_hd (p : Nat) (l : List Value) (hx : a.eval x = .pointer (some ⟨p, 0, none⟩)) (hA : At w p 30 l) (hl : l.length = 20)
    (h : wpList Try.prog ops Q rest (a.put dst (.agg l.toArray)) w) : wpList Try.prog ops Q (⟨dst, .load 30 x, t, pos, after, none⟩ :: rest) a w :=
  wpList_load_at p _ l _ hx hA Try.underlying30 rfl (by rw [hl]; kernel_rfl) h
theorem st_hd (p : Nat) (l l' : List Value) (hx : a.eval x = .pointer (some ⟨p, 0, none⟩)) (hy : a.eval y = .agg l'.toArray) (hA : At w p 30 l) (hl : l.length = 20) (hl' : l'.length = 20)
    (h1 : l'.all (·.oneCell') = true) (h : ∀ w', At w' p 30 l' → Kept (· = p) w w' → wpList Try.prog ops Q rest (a.put dst undef) w') :
    wpList Try.prog ops Q (⟨dst, .store 30 x y, t, pos, after, none⟩ :: rest) a w :=
  wpList_store_at p _ l l' hx hy hA (hl.trans hl'.symm) (by rw [hl']; kernel_rfl) h1 h
theorem at_ldh {g : Option (Nat × Bool)} (h : wpList Try.prog ops Q (⟨dst, .load 30 x, t, pos, after, g⟩ :: rest) a w) : wpList Try.prog ops Q (⟨dst, .load 30 x, t, pos, after, g⟩ :: rest) a w := h
theorem at_sth {g : Option (Nat × Bool)} (h : wpList Try.prog ops Q (⟨dst, .store 30 x y, t, pos, after, g⟩ :: rest) a w) : wpList Try.prog ops Q (⟨dst, .store 30 x y, t, pos, after, g⟩ :: rest) a w := h
end
/-- A head's value reads so. -/
structure HFits (w : World) (P : Nat → Prop) (m : HN) (d : Sl) (ds : List Int) : Prop where
  wf : m.wf
  dt : InD w P d ds
theorem HFits.kept {S P : Nat → Prop} {w w' : World} {m : HN} {d : Sl} {ds : List Int} (h : HFits w P m d ds) (k : Kept S w w') (hs : ∀ b, P b → ¬ S b) : HFits w' P m d ds := ⟨h.wf, h.dt.kept k hs⟩
theorem HFits.below {P : Nat → Prop} {w w' : World} {m : HN} {d : Sl} {ds : List Int} (h : HFits w P m d ds) (k : Below w.heap.size w w') : HFits w' P m d ds := h.kept (Kept.of_below k (fun _ => False)) (fun _ _ h => h)
theorem HFits.mono {P P' : Nat → Prop} {w : World} {m : HN} {d : Sl} {ds : List Int} (h : HFits w P m d ds) (hp : ∀ b, b < w.heap.size → P b → P' b) : HFits w P' m d ds := ⟨h.wf, h.dt.mono hp⟩
/-- May it be written? -/
def hrightB (m : HN) (n : Nat) : Bool := decide (0 ≤ m.s ∧ m.s ≤ 2 ∧ 1 ≤ m.w ∧ m.w ≤ 4 ∧ n ≤ 32 ∧ (m.s = 0 ∨ n = 0) ∧ (m.s = 2 ∨ m.ph = false) ∧ (m.s = 2 → m.f = .zero))
end
section
theorem hd_info : (Try.prog.info? 30).map (·.size) = some 20 := by kernel_rfl
end
section
set_option linter.unusedVariables false
open Go.RowKit
theorem tmod_bd (k m : Int) (hm : 0 < m) : -(m - 1) ≤ k.tmod m ∧ k.tmod m ≤ m - 1 := by
  rcases Int.lt_or_le k 0 with h | h
  · rw [show k = -(-k) by omega, Int.neg_tmod, Int.tmod_eq_emod_of_nonneg (by omega)]
    have := Int.emod_nonneg (-k) (b := m) (by omega)
    have := Int.emod_lt_of_pos (-k) hm
    omega
  · rw [Int.tmod_eq_emod_of_nonneg h]
    have := Int.emod_nonneg k (b := m) (by omega)
    have := Int.emod_lt_of_pos k hm
    omega
theorem tmod_emod (k m : Int) (hm : 0 < m) : k % m = if k.tmod m < 0 then k.tmod m + m else k.tmod m := by
  have hb := tmod_bd k m hm
  have e : k.tmod m % m = k % m := by
    rw [Int.tmod_def, Int.sub_mul_emod_self_left]
  rw [← e]
  split
  · rw [← Int.add_emod_right, Int.emod_eq_of_lt (by omega) (by omega)]
  · exact Int.emod_eq_of_lt (by omega) (by omega)
def withinS (n lo hi : Int) : Int := if lo ≤ n ∧ n ≤ hi then n else lo + n % (hi - lo + 1)
theorem withinS_bd (n lo hi : Int) (h : lo ≤ hi) : lo ≤ withinS n lo hi ∧ withinS n lo hi ≤ hi := by
  unfold withinS
  have a := Int.emod_nonneg n (b := hi - lo + 1) (by omega)
  have b := Int.emod_lt_of_pos n (b := hi - lo + 1) (by omega)
  split <;> omega
theorem within_any (n lo hi : Int) (w : World) (hn0 : -9223372036854775808 ≤ n) (hn1 : n ≤ 9223372036854775807) (hlo : -4611686018427387904 ≤ lo) (hlh : lo ≤ hi) (hhi : hi ≤ 4611686018427387902) :
    Calls Try.prog 30 #[.int .i64 n, .int .i64 lo, .int .i64 hi] w fun e w' => e = .returned (.int .i64 (withinS n lo hi)) ∧ w = w' := by
  by_cases hin : lo ≤ n ∧ n ≤ hi
  · have hfin : withinS n lo hi = n := by unfold withinS; rw [if_pos hin]
    have H := Lib.hid hfin; clear hfin
    obtain ⟨h1, h2⟩ := hin
    go_enter Try.func30, Try.ntmps30
    go_wp2
    go_ret
    exact ⟨ret_int (by rw [H.out]), rfl⟩
  · have hfin : withinS n lo hi = lo + if n.tmod (hi - lo + 1) < 0 then n.tmod (hi - lo + 1) + (hi - lo + 1) else n.tmod (hi - lo + 1) := by
      unfold withinS; rw [if_neg hin, tmod_emod _ _ (by omega)]
    have H := Lib.hid hfin; clear hfin
    have hb := tmod_bd n (hi - lo + 1) (by omega)
    obtain ⟨hb0, hb1⟩ := hb
    rcases Int.lt_or_le n 0 with hneg | hneg
    · rcases Int.lt_or_le n lo with h1 | h1
      · go_enter Try.func30, Try.ntmps30
        go_wp2
        all_goals
          go_ret
          exact ⟨ret_int (by rw [H.out]; split <;> omega), rfl⟩
      · have h2 : hi < n := by omega
        go_enter Try.func30, Try.ntmps30
        go_wp2
        all_goals
          go_ret
          exact ⟨ret_int (by rw [H.out]; split <;> omega), rfl⟩
    · rw [Int.tmod_eq_emod_of_nonneg hneg] at H hb0 hb1
      rcases Int.lt_or_le n lo with h1 | h1
      · go_enter Try.func30, Try.ntmps30
        go_wp2
        all_goals
          go_ret
          exact ⟨ret_int (by rw [H.out]; split <;> omega), rfl⟩
      · have h2 : hi < n := by omega
        go_enter Try.func30, Try.ntmps30
        go_wp2
        all_goals
          go_ret
          exact ⟨ret_int (by rw [H.out]; split <;> omega), rfl⟩
end
section
set_option linter.unusedVariables false
open Go.RowKit
def cidX (n : Int) : Int := withinS n 0 1048576 % 5
set_option maxRecDepth 100000 in
set_option maxHeartbeats 1000000 in
theorem cidk_any (n : Int) (w : World) (hn0 : -9223372036854775808 ≤ n) (hn1 : n ≤ 9223372036854775807) (hb : 0 ≤ withinS n 0 1048576 ∧ withinS n 0 1048576 ≤ 1048576) :
    Calls Try.prog 31 #[.int .i64 n] w (FrPost (.agg #[.int .u8 1, .int .u8 (cidX n), .int .u8 7, .int .u8 0, .int .u8 0, .int .u8 0, .int .u8 0, .int .u8 0]) w) := by
  have HW := fun W => within_any n 0 1048576 W hn0 hn1 (by omega) (by omega) (by omega)
  have hB := fun o => (Below.refl w.heap.size w).alloc (Nat.le_refl _) o
  have hx : withinS n 0 1048576 % 5 = cidX n := rfl
  obtain ⟨h, hh⟩ : ∃ x, withinS n 0 1048576 = x := ⟨_, rfl⟩
  rw [hh] at HW hb hx
  obtain ⟨h0, h1⟩ := hb
  have hx0 : 0 ≤ h % 5 := by omega
  have hx1 : h % 5 < 256 := by omega
  have ht : h.tmod 5 = h % 5 := Int.tmod_eq_emod_of_nonneg h0
  obtain ⟨x, hxx⟩ : ∃ x, h % 5 = x := ⟨_, rfl⟩
  rw [hxx] at hx hx0 hx1 ht
  have HX := Lib.hid hx
  clear hh hxx hx
  go_enter Try.func31, Try.ntmps31
  go_wp2_with fail
  refine (HW _).mono ?_
  rintro e w' ⟨rfl, rfl⟩
  go_wp2_with fail
  have hA := At.new w 27 [.int .u8 1, .int .u8 x, .int .u8 7, .int .u8 0, .int .u8 0, .int .u8 0, .int .u8 0, .int .u8 0]
  refine bodyPost_ret (results_cell 2 27 (by rfl) _ 27 _ _ (by rfl) hA Try.underlying27 rfl (by kernel_rfl)) rfl ?_
  exact ⟨by rw [← HX.out], hB _⟩
end
section
set_option linter.unusedVariables false
open Go.RowKit
theorem Rd.cut {w : World} {B n : Nat} {A : Option Addr} {bs : List Int} (h : Rd w B A n bs) {m : Nat} (hm : m ≤ n) : Rd w B A m (bs.take m) := by
  refine ⟨by rw [List.length_take, h.1]; omega, h.2.1.take m, fun hp => ?_⟩
  obtain ⟨b, off, e, hb, hc⟩ := h.2.2 (by omega)
  refine ⟨b, off, e, hb, fun i hi => ?_⟩
  rw [hc i (by omega), List.getD_eq_getElem?_getD, List.getD_eq_getElem?_getD, List.getElem?_take_of_lt hi]
/-- Cut: no more than k bytes. -/
theorem cut_any (A : Option Addr) (n c k : Nat) (w : World) (hn : n ≤ c) (hc : c ≤ maxLen) (hk : k ≤ 1000) (hA : k < n → A ≠ none) :
    Calls Try.prog 13 #[.slice A n c, .int .i64 k] w fun e w' => e = .returned (.slice A (min n k) c) ∧ w = w' := by
  unfold maxLen at hc
  rcases Nat.lt_or_ge k n with h | h
  · cases A with
    | none => exact absurd rfl (hA h)
    | some ad =>
      rw [Nat.min_eq_right (by omega)]
      go_enter Try.func13, Try.ntmps13
      go_wp2

      go_ret
      exact ⟨rfl, rfl⟩
  · rw [Nat.min_eq_left h]
    go_enter Try.func13, Try.ntmps13
    go_wp2
    go_ret
    exact ⟨rfl, rfl⟩
end
section
set_option linter.unusedVariables false
set_option linter.unusedSimpArgs false
open Go.RowKit
section
variable {P : Program} {ops : Array Oper} {rest : List Oper} {a : Act} {w : World} {Q : Exit → Act → World → Prop} {dst : Option Tmp} {x y : Operand} {ty t : TypeId} {pos : String} {after : Array Edge}
theorem at_stc {ops : Array Oper} {rest : List Oper} {a : Act} {w : World} {Q : Exit → Act → World → Prop} {dst : Option Tmp} {x y : Operand} {t : TypeId} {pos : String} {after : Array Edge} {g : Option (Nat × Bool)} (h : wpList Try.prog ops Q (⟨dst, .store 27 x y, t, pos, after, g⟩ :: rest) a w) : wpList Try.prog ops Q (⟨dst, .store 27 x y, t, pos, after, g⟩ :: rest) a w := h
end
def KHPost (w : World) (P : Nat → Prop) (e : Ending) (w' : World) : Prop :=
  ∃ m d tok, e = .returned (hdV m d) ∧ HFits w' P m d tok ∧ hrightB m tok.length = true ∧ Below w.heap.size w w'
def xL (S T F W : Int) (d : Sl) (ph : Bool) : List Value := [.int .i64 S, .int .i64 T, .int .i64 F, .int .i64 W, .slice d.A d.n d.c, .bool ph]
theorem cidX_bd (n : Int) : 0 ≤ cidX n ∧ cidX n < 5 := by
  have := withinS_bd n 0 1048576 (by decide)
  unfold cidX; omega
end
end Go.Proofs.Ytehdilgnlhhjdaa
