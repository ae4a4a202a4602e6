/-
  Package octet's Reader: what each call answers of whatever bytes are left, and what is left behind it.
-/
import Derived.Test.YtbejpafephofaaaGreatProg
import Derived.Test.YtbejpafephofaaaGreatMq0
import Derived.Test.YtbejpafephofaaaGreatMq13
import Derived.Test.YtbejpafephofaaaGreatMq16
import Derived.Deep.QuietTactic
import Derived.BigQuiet
import Derived.WalkSpells
namespace Go.Proofs.YtbejpafephofaaaGreat
section
set_option linter.unusedVariables false
open Go.RowKit
/-- What is left, and whether bytes lacked. -/
abbrev St := List Int × Bool
def Rdr (w : World) (p : Nat) (T : TypeId) (P : Nat → Prop) (s : St) : Prop :=
  ∃ A n c, At w p T [.slice A n c, .bool s.2] ∧ n ≤ c ∧ c ≤ maxLen ∧ (A = none → c = 0) ∧ RdP w P A n s.1 ∧ (s.2 = true → s.1 = [])
theorem Rdr.kept {S : Nat → Prop} {w w' : World} {p : Nat} {T : TypeId} {P : Nat → Prop} {s : St} (h : Rdr w p T P s) (k : Kept S w w') (hp : ¬ S p) (hs : ∀ b, P b → ¬ S b) : Rdr w' p T P s := by
  obtain ⟨A, n, c, h1, h2, h3, h4, h5, h6⟩ := h
  exact ⟨A, n, c, h1.kept k hp, h2, h3, h4, h5.kept k hs, h6⟩
theorem Rdr.byt {w : World} {p : Nat} {T : TypeId} {P : Nat → Prop} {s : St} (h : Rdr w p T P s) : Byt s.1 := by
  obtain ⟨A, n, c, h1, h2, h3, h4, h5, h6⟩ := h; exact h5.byt
end
section
set_option linter.unusedVariables false
open Go.RowKit
def Wtr (w : World) (base p : Nat) (T : TypeId) (v : Value) (bs : List Int) : Prop :=
  At w p T [v] ∧ base ≤ p ∧ Own w base 5 v bs ∧ v.ownBlock ≠ some p
/-- Only block p, and the row that it held, may have turned. -/
abbrev WS (p : Nat) (v : Value) : Nat → Prop := fun j => j = p ∨ v.ownBlock = some j
def WPost (r : Value) (w : World) (base p : Nat) (T : TypeId) (v : Value) (bs : List Int) (e : Ending) (w' : World) : Prop :=
  ∃ v', e = .returned r ∧ Wtr w' base p T v' bs ∧ (v'.ownBlock = v.ownBlock ∨ ∃ k, w.heap.size ≤ k ∧ v'.ownBlock = some k) ∧ Kept (WS p v) w w'
set_option maxRecDepth 100000 in
theorem Own.shape {w : World} {base : Nat} {e : TypeId} {v : Value} {bs : List Int} (h : Own w base e v bs) : ∃ A n c, v = .slice A n c := by
  obtain ⟨A, c, h, _⟩ := h.open_
  exact ⟨A, _, c, h⟩
set_option maxRecDepth 100000 in
/-- What append leaves, and the store behind it. -/
theorem Wtr.put {w w1 w2 : World} {base p : Nat} {T : TypeId} {v v' : Value} {bs bs' : List Int} (h : Wtr w base p T v bs) (hw1 : Below w.heap.size w w1) (hown : Own w2 base 5 v' bs') (hg : w1.grownBy w2 v.ownBlock)
    (hv : v'.ownBlock = v.ownBlock ∨ v'.ownBlock = some w1.heap.size) :
    Wtr (w2.setCell ⟨p, 0, none⟩ v') base p T v' bs' ∧ (v'.ownBlock = v.ownBlock ∨ ∃ k, w.heap.size ≤ k ∧ v'.ownBlock = some k) ∧ Kept (WS p v) w (w2.setCell ⟨p, 0, none⟩ v') ∧ w2.cell? ⟨p, 0, none⟩ = some v ∧ w2.frozen? ⟨p, 0, none⟩ = false := by
  obtain ⟨hA, hbp, ho, hne⟩ := h
  have hlt := hA.lt
  have hsz := hw1.size
  have k1 : Kept (WS p v) w w1 := Kept.of_below hw1 _
  have k2 : Kept (fun j => v.ownBlock = some j) w1 w2 := Kept.of_grown hg (fun k hk => .inl hk)
  have A1 : At w1 p T [v] := hA.below hw1 hlt
  have A2 : At w2 p T [v] := A1.kept k2 hne
  have hne' : v'.ownBlock ≠ some p := by
    rcases hv with h | h
    · rw [h]; exact hne
    · rw [h]; intro e; injection e; omega
  have kk : Kept (WS p v) w w2 := k1.trans' k2 fun j hj => .inl (.inr hj)
  refine ⟨⟨A2.set 0 v', hbp, hown.kept ((Kept.refl (· = p) _).setAt 0 v') (fun j hj e => hne' (by rw [hj, e])), hne'⟩, ?_, kk.setCell (.inl (.inl rfl)) _, A2.cell 0, A2.frozen 0⟩
  rcases hv with h | h
  · exact .inl h
  · exact .inr ⟨_, hsz, h⟩
set_option maxRecDepth 100000 in
theorem wraw_any (base p : Nat) (T : TypeId) (v : Value) (bs : List Int) (A : Option Addr) (n c : Nat) (xs : List Int) (w : World) (h : Wtr w base p T v bs) (hl : bs.length + n ≤ 140737488355000) (hr : Rd w w.heap.size A n xs) (hbase : base ≤ w.heap.size) :
    Calls Tryz.prog 95 #[.pointer (some ⟨p, 0, none⟩), .slice A n c] w (WPost (.tuple #[]) w base p T v (bs ++ xs)) := by
  obtain ⟨i0, hi, hz0, hz1, hz2⟩ := info_parts u8_info
  have c0 := h.1.cell 0
  go_enter Tryz.func95, Tryz.ntmps95
  go_wp2_with (at_builtin; refine wpList_append_at rfl (.tmp 8) (.tmp 9) 22 rfl base 5 i0 Tryz.underlying22 hi hz0 hz1 hz2 _ bs rfl h.2.2.1 _ A n c xs rfl hr (by omega) hbase ?_; intro v' w2 hown2 hgr2 hv2; obtain ⟨A', n', c', rfl⟩ := hown2.shape; obtain ⟨P1, P2, P3, P4, P5⟩ := h.put (Below.refl _ _) hown2 hgr2 hv2; have P1' := Lib.hid P1; have P2' := Lib.hid P2; clear P1 P2 hgr2 hv2)
  go_end0
  exact ⟨_, rfl, P1'.out, P2'.out, P3⟩
set_option maxRecDepth 100000 in
theorem Wtr.kept {S : Nat → Prop} {w w' : World} {base p : Nat} {T : TypeId} {v : Value} {bs : List Int} (h : Wtr w base p T v bs) (k : Kept S w w') (hp : ¬ S p) (hs : ∀ j, v.ownBlock = some j → ¬ S j) : Wtr w' base p T v bs :=
  ⟨h.1.kept k hp, h.2.1, h.2.2.1.kept k hs, h.2.2.2⟩
set_option maxRecDepth 100000 in
/-- What a call does behind one that only made memory. -/
theorem WPost.after {r : Value} {w w1 : World} {base p : Nat} {T : TypeId} {v : Value} {bs : List Int} {e : Ending} {w' : World} (hb : Below w.heap.size w w1) (h : WPost r w1 base p T v bs e w') : WPost r w base p T v bs e w' := by
  obtain ⟨v', h1, h2, h3, h4⟩ := h
  have hs := hb.size
  refine ⟨v', h1, h2, ?_, (Kept.of_below hb _).trans h4⟩
  rcases h3 with h3 | ⟨k, hk, h3⟩
  · exact .inl h3
  · exact .inr ⟨k, by omega, h3⟩
set_option maxRecDepth 100000 in
theorem wvar_yes (base p : Nat) (T : TypeId) (v : Value) (bs : List Int) (x : Int) (w : World) (h : Wtr w base p T v bs) (hl : bs.length ≤ 100000000000000) (h0 : 0 ≤ x) (h1 : x ≤ 4611686018427387903) (hbase : base ≤ w.heap.size) :
    Calls Tryz.prog 89 #[.pointer (some ⟨p, 0, none⟩), .int .u64 x] w (WPost (.bool true) w base p T v (bs ++ putS x)) := by
  have hpl : ([] ++ putS x).length ≤ 8 := by simp [putS_len]; exact size_le x
  go_enter Tryz.func89, Tryz.ntmps89
  go_wp2_with fail
  refine (putvar_yes none 0 0 [] x w (Rd.none_ _ _ _) (by omega) h0 h1).mono ?_
  rintro e w1 ⟨q, rfl, hq, hb⟩
  obtain ⟨A, c, rfl, g1, g2, g3⟩ := hq.open_
  have hsz := hb.size
  have hw1 : Wtr w1 base p T v bs := h.kept (Kept.of_below hb (fun _ => False)) (fun h => h) (fun _ _ h => h)
  clear hq
  go_wp2_with fail
  refine (wraw_any base p T v bs A _ c ([] ++ putS x) w1 hw1 (by omega) g3 (by omega)).mono ?_
  rintro e w2 hw2
  obtain ⟨v', rfl, k1, k2, k3⟩ := WPost.after hb hw2
  go_wp2_with fail
  go_ret
  exact ⟨v', rfl, by simpa using k1, k2, k3⟩
def textB (xs : List Int) : List Int := putS (xs.length : Int) ++ xs
set_option maxRecDepth 100000 in
theorem wtext_any (base p : Nat) (T : TypeId) (v : Value) (bs : List Int) (A : Option Addr) (n c : Nat) (xs : List Int) (w : World) (h : Wtr w base p T v bs) (hl : bs.length ≤ 10000000000000) (hn : n ≤ 10000000000000) (hr : Rd w w.heap.size A n xs) (hrv : ∀ b off, 0 < n → A = some ⟨b, off, none⟩ → ¬ WS p v b) (hbase : base ≤ w.heap.size) :
    Calls Tryz.prog 93 #[.pointer (some ⟨p, 0, none⟩), .slice A n c] w (WPost (.tuple #[]) w base p T v (bs ++ textB xs)) := by
  have hrp : RdP w (fun b => ¬ WS p v b) A n xs := ⟨hr, hrv⟩
  have e0 := Lib.hid (show (n : Int) = (xs.length : Int) by rw [hr.1])
  have e1 := Lib.hid (show bs ++ putS (n : Int) ++ xs = bs ++ textB xs by unfold textB; rw [e0.out, List.append_assoc])
  have hpl : (bs ++ putS (n : Int)).length ≤ bs.length + 8 := by simp [putS_len]; exact size_le _
  go_enter Tryz.func93, Tryz.ntmps93
  go_wp2_with fail
  refine (wvar_yes base p T v bs n w h (by omega) (by omega) (by omega) hbase).mono ?_
  rintro e w1 ⟨v1, rfl, h1, h2, h3⟩
  have hr1 := hrp.kept h3 (fun b hb => hb)
  have hsz := h3.size
  go_wp2_with fail
  refine (wraw_any base p T v1 _ A n c xs w1 h1 (by omega) hr1.1 (by omega)).mono ?_
  rintro e w2 ⟨v2, rfl, g1, g2, g3⟩
  go_wp2_with fail
  go_end0
  refine ⟨v2, rfl, e1.out ▸ g1, ?_, h3.trans' g3 fun j hj => ?_⟩
  · rcases g2 with g2 | ⟨k, hk, g2⟩
    · rcases h2 with h2 | ⟨k, hk, h2⟩
      · exact .inl (g2.trans h2)
      · exact .inr ⟨k, hk, g2.trans h2⟩
    · exact .inr ⟨k, by omega, g2⟩
  · rcases hj with hj | hj
    · exact .inl (.inl hj)
    · rcases h2 with h2 | ⟨k, hk, h2⟩
      · exact .inl (.inr (h2 ▸ hj))
      · rw [h2] at hj; injection hj with hj; omega
set_option maxRecDepth 100000 in
theorem wlen_any (base p : Nat) (T : TypeId) (v : Value) (bs : List Int) (w : World) (h : Wtr w base p T v bs) :
    Calls Tryz.prog 76 #[.pointer (some ⟨p, 0, none⟩)] w fun e w' => e = .returned (.int .i64 bs.length) ∧ w = w' := by
  obtain ⟨A, c, rfl, h1, h2, h3⟩ := h.2.2.1.open_
  have c0 := h.1.cell 0
  go_enter Tryz.func76, Tryz.ntmps76
  go_wp2
  go_ret
  exact ⟨rfl, rfl⟩
set_option maxRecDepth 100000 in
theorem Own.nil_cap {w : World} {base : Nat} {e : TypeId} {n c : Nat} {A : Option Addr} {bs : List Int} (h : Own w base e (.slice A n c) bs) : A = none → c = 0 := by
  intro hA
  subst hA
  rcases h.1.2 with ⟨h, _⟩ | ⟨g, cap, cur, h, _⟩
  · injection h
  · injection h with h; cases h
set_option maxRecDepth 100000 in
theorem wnew_any (w : World) :
    Calls Tryz.prog 74 #[] w fun e w' => e = .returned (.pointer (some ⟨w.heap.size, 0, none⟩)) ∧ Wtr w' w.heap.size w.heap.size 124 (.slice none 0 0) [] ∧ w.heap.size < w'.heap.size ∧ Below w.heap.size w w' := by
  go_enter Tryz.func74, Tryz.ntmps74
  go_wp2
  go_ret
  exact ⟨rfl, ⟨At.new w _ _, Nat.le_refl _, Own.none_ _ _ _, by simp [Value.ownBlock]⟩, by simp, (Below.refl _ _).alloc (Nat.le_refl _) _⟩
end
section
set_option linter.unusedVariables false
open Go.RowKit
/-- What was written since w: the writer at p held v there, and holds v' in w'. -/
def WSt (w : World) (base p : Nat) (T : TypeId) (v v' : Value) (bs' : List Int) (w' : World) : Prop :=
  Wtr w' base p T v' bs' ∧ (v'.ownBlock = v.ownBlock ∨ ∃ k, w.heap.size ≤ k ∧ v'.ownBlock = some k) ∧ Kept (WS p v) w w'
section
variable {w w1 w2 : World} {base p : Nat} {T : TypeId} {v v1 r : Value} {bs bs1 bs2 : List Int} {e : Ending}
theorem WSt.refl (h : Wtr w base p T v bs) : WSt w base p T v v bs w := ⟨h, .inl rfl, Kept.refl _ _⟩
theorem WSt.step (h : WSt w base p T v v1 bs1 w1) (k : WPost r w1 base p T v1 bs2 e w2) : ∃ v2, e = .returned r ∧ WSt w base p T v v2 bs2 w2 := by
  obtain ⟨h1, h2, h3⟩ := h
  obtain ⟨v2, he, k1, k2, k3⟩ := k
  have hs := h3.size
  refine ⟨v2, he, k1, ?_, h3.trans' k3 fun j hj => ?_⟩
  · rcases k2 with k2 | ⟨i, hi, k2⟩
    · rcases h2 with h2 | ⟨i, hi, h2⟩
      · exact .inl (k2.trans h2)
      · exact .inr ⟨i, hi, k2.trans h2⟩
    · exact .inr ⟨i, by omega, k2⟩
  · rcases hj with hj | hj
    · exact .inl (.inl hj)
    · rcases h2 with h2 | ⟨i, hi, h2⟩
      · exact .inl (.inr (h2 ▸ hj))
      · rw [h2] at hj; injection hj with hj; omega
theorem WSt.below (h : WSt w base p T v v1 bs1 w1) (hb : Below w1.heap.size w1 w2) : WSt w base p T v v1 bs1 w2 := by
  obtain ⟨h1, h2, h3⟩ := h
  exact ⟨h1.kept (Kept.of_below hb (fun _ => False)) (fun h => h) (fun _ _ h => h), h2, h3.trans (Kept.of_below hb _)⟩
theorem WSt.alloc (h : WSt w base p T v v1 bs1 w1) (o : Obj) : WSt w base p T v v1 bs1 (w1.alloc o) := h.below ((Below.refl _ _).alloc (Nat.le_refl _) _)
theorem WSt.post (h : WSt w base p T v v1 bs1 w1) (r : Value) : WPost r w base p T v bs1 (.returned r) w1 := ⟨v1, rfl, h.1, h.2.1, h.2.2⟩
/-- What lay there, elsewhere than the writer, lies there still. -/
theorem WSt.apart (h : WSt w base p T v v1 bs1 w1) : Wtr w base p T v bs → ∀ j, j < w.heap.size → ¬ WS p v j → ¬ WS p v1 j := fun _ j hj hn hs => by
  rcases hs with hs | hs
  · exact hn (.inl hs)
  · rcases h.2.1 with h2 | ⟨i, hi, h2⟩
    · exact hn (.inr (h2 ▸ hs))
    · rw [h2] at hs; injection hs with hs; omega
/-- A new block lies apart from the writer. -/
theorem Wtr.not_new (h : Wtr w base p T v bs) {g : Nat} (hg : w.heap.size ≤ g) : ¬ WS p v g := fun hs => by
  rcases hs with hs | hs
  · have := h.1.lt; omega
  · have := (h.2.2.1.block_lt g hs).2; omega
end
/-- As WSt, but what the writer holds anew lies from block M on. -/
def WSx (w : World) (M base p : Nat) (T : TypeId) (v v' : Value) (bs' : List Int) (w' : World) : Prop :=
  Wtr w' base p T v' bs' ∧ (v'.ownBlock = v.ownBlock ∨ ∃ k, M ≤ k ∧ v'.ownBlock = some k) ∧ Kept (WS p v) w w' ∧ M ≤ w'.heap.size
section
variable {w w1 w2 : World} {M base p : Nat} {T : TypeId} {v v1 r : Value} {bs bs1 bs2 : List Int} {e : Ending}
theorem WSx.refl (h : Wtr w base p T v bs) (hb : Below w.heap.size w w1) : WSx w w1.heap.size base p T v v bs w1 := ⟨h.kept (Kept.of_below hb (fun _ => False)) (fun h => h) (fun _ _ h => h), .inl rfl, Kept.of_below hb _, Nat.le_refl _⟩
theorem WSx.step (h : WSx w M base p T v v1 bs1 w1) (hM : w.heap.size ≤ M) (k : WPost r w1 base p T v1 bs2 e w2) : ∃ v2, e = .returned r ∧ WSx w M base p T v v2 bs2 w2 ∧ Kept (WS p v1) w1 w2 := by
  obtain ⟨h1, h2, h3, h4⟩ := h
  obtain ⟨v2, he, k1, k2, k3⟩ := k
  have hs := k3.size
  refine ⟨v2, he, ⟨k1, ?_, h3.trans' k3 fun j hj => ?_, by omega⟩, k3⟩
  · rcases k2 with k2 | ⟨i, hi, k2⟩
    · rcases h2 with h2 | ⟨i, hi, h2⟩
      · exact .inl (k2.trans h2)
      · exact .inr ⟨i, hi, k2.trans h2⟩
    · exact .inr ⟨i, by omega, k2⟩
  · rcases hj with hj | hj
    · exact .inl (.inl hj)
    · rcases h2 with h2 | ⟨i, hi, h2⟩
      · exact .inl (.inr (h2 ▸ hj))
      · rw [h2] at hj; injection hj with hj; omega
theorem WSx.below (h : WSx w M base p T v v1 bs1 w1) (hb : Below w1.heap.size w1 w2) : WSx w M base p T v v1 bs1 w2 := by
  obtain ⟨h1, h2, h3, h4⟩ := h
  have := hb.size
  exact ⟨h1.kept (Kept.of_below hb (fun _ => False)) (fun h => h) (fun _ _ h => h), h2, h3.trans (Kept.of_below hb _), by omega⟩
theorem WSx.alloc (h : WSx w M base p T v v1 bs1 w1) (o : Obj) : WSx w M base p T v v1 bs1 (w1.alloc o) := h.below ((Below.refl _ _).alloc (Nat.le_refl _) _)
theorem WSx.apart (h : WSx w M base p T v v1 bs1 w1) {j : Nat} (hj : j < M) (hn : ¬ WS p v j) : ¬ WS p v1 j := fun hs => by
  rcases hs with hs | hs
  · exact hn (.inl hs)
  · rcases h.2.1 with h2 | ⟨i, hi, h2⟩
    · exact hn (.inr (h2 ▸ hs))
    · rw [h2] at hs; injection hs with hs; omega
theorem WSx.cell (h : WSx w M base p T v v1 bs1 w1) {g : Nat} (hg : w.heap.size ≤ g) (hgM : g < M) (hn : ¬ WS p v g) (j : Nat) (u : Value) : WSx w M base p T v v1 bs1 (w1.setCell ⟨g, j, none⟩ u) := by
  have ha := h.apart hgM hn
  obtain ⟨h1, h2, h3, h4⟩ := h
  refine ⟨h1.kept (S := (· = g)) ((Kept.refl _ _).setAt j u) (fun e => ha (.inl e.symm)) (fun i hi e => ha (.inr (e ▸ hi))), h2, h3.setCell (.inr hg) _, by simpa [World.setCell] using h4⟩
theorem WSx.post (h : WSx w M base p T v v1 bs1 w1) (hM : w.heap.size ≤ M) (r : Value) : WPost r w base p T v bs1 (.returned r) w1 := by
  refine ⟨v1, rfl, h.1, ?_, h.2.2.1⟩
  rcases h.2.1 with h2 | ⟨i, hi, h2⟩
  · exact .inl h2
  · exact .inr ⟨i, by omega, h2⟩
end
theorem WSx.row {w w1 : World} {M base p : Nat} {T : TypeId} {v v1 : Value} {bs1 : List Int} (h : WSx w M base p T v v1 bs1 w1) (hM : w.heap.size ≤ M) {d : Sl} {ds : List Int} (hd : InD w (fun b => ¬ WS p v b) d ds) :
    Rd w1 w1.heap.size d.A d.n ds ∧ ∀ b off, 0 < d.n → d.A = some ⟨b, off, none⟩ → ¬ WS p v1 b := by
  have hk := hd.rd.kept h.2.2.1 (fun b hb => hb)
  refine ⟨hk.1, fun b off hn e => ?_⟩
  obtain ⟨b', off', e', hb, _⟩ := hd.rd.1.2.2 hn
  rw [e] at e'
  injection e' with e'
  injection e' with e1 e2
  exact h.apart (by omega) (hd.rd.2 b off hn e)
theorem putS_le (x : Int) : (putS x).length ≤ 8 := by rw [putS_len]; exact size_le x
theorem textB_le (xs : List Int) : (textB xs).length ≤ xs.length + 8 := by
  unfold textB; rw [List.length_append, putS_len]; have := size_le (xs.length : Int); omega
end
section
set_option linter.unusedVariables false
set_option linter.unusedSimpArgs false
open Go.RowKit
/-- The slice value with address A and n elements reads as the numbers xs, which are small, in a block that P allows. -/
def UsP (w : World) (P : Nat → Prop) (A : Option Addr) (n : Nat) (xs : List Int) : Prop :=
  xs.length = n ∧ (∀ x ∈ xs, 0 ≤ x ∧ x < 18446744073709551616) ∧ (0 < n → ∃ b off, A = some ⟨b, off, none⟩ ∧ b < w.heap.size ∧ P b ∧ ∀ i x, xs[i]? = some x → w.cell? ⟨b, off + i, none⟩ = some (.int .u64 x))
theorem UsP.kept {S P : Nat → Prop} {w w' : World} {n : Nat} {A : Option Addr} {xs : List Int} (h : UsP w P A n xs) (k : Kept S w w') (hs : ∀ b, P b → ¬ S b) : UsP w' P A n xs := by
  refine ⟨h.1, h.2.1, fun hn => ?_⟩
  obtain ⟨b, off, e, hb, hp, hc⟩ := h.2.2 hn
  refine ⟨b, off, e, Nat.lt_of_lt_of_le hb k.size, hp, fun i r hr => ?_⟩
  rw [k.cell (p := ⟨b, _, none⟩) hb (hs b hp)]
  exact hc i r hr
theorem UsP.new (w : World) (P : Nat → Prop) (T : TypeId) (xs : List Int) (hx : ∀ x ∈ xs, 0 ≤ x ∧ x < 18446744073709551616) (cs : Array Value) (hcs : cs = (xs.map (Value.int .u64)).toArray) (g : Nat) (hg : g = w.heap.size) (hP : P g) :
    UsP (w.alloc (.cells cs T)) P (some ⟨g, 0, none⟩) xs.length xs := by
  subst hcs; subst hg
  refine ⟨rfl, hx, fun _ => ⟨_, 0, rfl, by simp, hP, fun i x hi => ?_⟩⟩
  have := (At.new w T (xs.map (Value.int .u64))).cell i
  rw [Nat.zero_add, this, List.getElem?_map, hi]; rfl
def putL (xs : List Int) : List Int := xs.flatMap putS
theorem putL_take (xs : List Int) (k : Nat) (x : Int) (h : xs[k]? = some x) : putL (xs.take (k + 1)) = putL (xs.take k) ++ putS x := by
  obtain ⟨hk, e⟩ := List.getElem?_eq_some_iff.1 h
  unfold putL
  rw [List.take_succ_eq_append_getElem hk, List.flatMap_append, e]; simp
theorem putL_len (xs : List Int) : (putL xs).length ≤ 8 * xs.length := by
  induction xs with
  | nil => simp [putL]
  | cons x t ih =>
    unfold putL at *
    rw [List.flatMap_cons, List.length_append, putS_len, List.length_cons]
    have := size_le x
    omega
set_option maxRecDepth 100000 in
set_option maxHeartbeats 1000000 in
theorem wvars_any (base p : Nat) (T : TypeId) (v : Value) (bs xs : List Int) (A : Option Addr) (n c : Nat) (w : World) (h : Wtr w base p T v bs) (hl : bs.length ≤ 10000000000000) (hn : n ≤ 10) (hnc : n ≤ c) (hr : UsP w (fun b => ¬ WS p v b) A n xs) (hx : ∀ x ∈ xs, x ≤ 4611686018427387903) (hbase : base ≤ w.heap.size) :
    Calls Tryz.prog 92 #[.pointer (some ⟨p, 0, none⟩), .slice A n c] w (WPost (.tuple #[]) w base p T v (bs ++ putL xs)) := by
  have HL := Lib.hid hr.1
  have HX := Lib.hid hx
  have HR := Lib.hid hr
  have HW := Lib.hid h
  clear hx hr h
  go_enter Tryz.func92, Tryz.ntmps92
  go_wp2
  go_loopw [8] (fun i wr => ∃ (k : Nat) (v' : Value), k ≤ n ∧ i = .int .i64 k ∧ Hid (WSt w base p T v v' (bs ++ putL (xs.take k)) wr)) (fun i _ => n - (intOf i).toNat)
  case atStart => exact ⟨0, v, by omega, rfl, Lib.hid (by simpa [putL] using WSt.refl HW.out)⟩
  case round =>
    obtain ⟨k, v', hk, rfl, hst⟩ := hrel
    by_cases hlt : k < n
    · obtain ⟨b, off, rfl, hb, hP, hc⟩ := HR.out.2.2 (by omega)
      obtain ⟨x, hx⟩ : ∃ x, xs[k]? = some x := ⟨_, List.getElem?_eq_getElem (by rw [HL.out]; exact hlt)⟩
      have hxm := List.mem_of_getElem? hx
      have hx0 := (HR.out.2.1 x hxm).1
      have hx1 := HX.out x hxm
      have ck : wr.cell? ⟨b, off + k, none⟩ = some (.int .u64 x) := (hst.out.2.2.cell (p := ⟨b, _, none⟩) hb hP).trans (hc k x hx)
      have hpl := putL_len (xs.take k)
      have htl := List.length_take_le k xs
      have hlen : (bs ++ putL (xs.take k)).length ≤ 100000000000000 := by rw [List.length_append]; omega
      have hbs : base ≤ wr.heap.size := Nat.le_trans hbase hst.out.2.2.size
      have HT := Lib.hid (putL_take xs k x hx)
      have hc0 : n ≤ c := hnc
      clear hc hx hpl htl
      go_wp2_with fail
      refine (wvar_yes base p T v' _ x wr hst.out.1 hlen hx0 hx1 hbs).mono ?_
      rintro e w2 hw2
      obtain ⟨v2, rfl, hst2⟩ := hst.out.step hw2
      go_wp2_with fail
      go_roundw
      case rel => exact ⟨k + 1, v2, by omega, by go_num, Lib.hid (by rw [HT.out, ← List.append_assoc]; exact hst2)⟩
      case measure => simp [intOf]; omega
    · obtain rfl : k = n := by omega
      have HT := Lib.hid (show putL (xs.take k) = putL xs by rw [List.take_of_length_le (by rw [HL.out]; exact Nat.le_refl _)])
      go_wp2_with fail
      go_end0
      have := hst.out.post (.tuple #[])
      rw [HT.out] at this
      exact this
def wkS (m : FN) : Int := if m.k = 8 then 10 + (if 0 < m.o then 4 else 0) + (if m.fin then 1 else 0) else m.k
set_option maxRecDepth 100000 in
theorem wk_any (m : FN) (d r : Sl) (w : World) (hk0 : 0 ≤ m.k) (hk1 : m.k ≤ 30) (ho : 0 ≤ m.o) : Calls Tryz.prog 90 #[frV m d r] w (FrPost (.int .u64 (wkS m)) w) := by
  obtain ⟨k, s, o, fin, l, c, f, q, y, c0, c1, c2, c3, c4, c5, c6, c7⟩ := m
  obtain ⟨dA, dn, dc⟩ := d
  obtain ⟨rA, rn, rc⟩ := r
  simp only [frV, frL]
  simp only at hk0 hk1 ho
  have hb : Below w.heap.size w (w.alloc (.cells #[.int .i64 k, .int .u64 s, .int .u64 o, .slice dA dn dc, .bool fin, .int .u64 l, .int .u64 c, .int .u64 f, .int .u64 q, .int .u64 y, .slice rA rn rc,
      .int .u8 c0, .int .u8 c1, .int .u8 c2, .int .u8 c3, .int .u8 c4, .int .u8 c5, .int .u8 c6, .int .u8 c7] 51)) := (Below.refl _ _).alloc (Nat.le_refl _) _
  have HB := Lib.hid hb; clear hb
  by_cases hk : k = 8
  · subst hk
    rcases Int.lt_or_le 0 o with ho1 | ho1
    · have hd : decide (0 < o) = true := by simpa using ho1
      cases fin
      · have HG := Lib.hid (show wkS ⟨8, s, o, false, l, c, f, q, y, c0, c1, c2, c3, c4, c5, c6, c7⟩ = 14 from by simp [wkS, ho1])
        go_enter Tryz.func90, Tryz.ntmps90
        go_wp2
        go_ret
        exact ⟨by rw [HG.out]; rfl, HB.out⟩
      · have HG := Lib.hid (show wkS ⟨8, s, o, true, l, c, f, q, y, c0, c1, c2, c3, c4, c5, c6, c7⟩ = 15 from by simp [wkS, ho1])
        go_enter Tryz.func90, Tryz.ntmps90
        go_wp2
        go_ret
        exact ⟨by rw [HG.out]; rfl, HB.out⟩
    · have hd : decide (0 < o) = false := by simpa using ho1
      cases fin
      · have HG := Lib.hid (show wkS ⟨8, s, o, false, l, c, f, q, y, c0, c1, c2, c3, c4, c5, c6, c7⟩ = 10 from by simp [wkS, show ¬ 0 < o by omega])
        go_enter Tryz.func90, Tryz.ntmps90
        go_wp2
        go_ret
        exact ⟨by rw [HG.out]; rfl, HB.out⟩
      · have HG := Lib.hid (show wkS ⟨8, s, o, true, l, c, f, q, y, c0, c1, c2, c3, c4, c5, c6, c7⟩ = 11 from by simp [wkS, show ¬ 0 < o by omega])
        go_enter Tryz.func90, Tryz.ntmps90
        go_wp2
        go_ret
        exact ⟨by rw [HG.out]; rfl, HB.out⟩
  · have HG := Lib.hid (show wkS ⟨k, s, o, fin, l, c, f, q, y, c0, c1, c2, c3, c4, c5, c6, c7⟩ = k from by unfold wkS; rw [if_neg hk])
    have hk' : (k != 8) = true := by simpa using hk
    go_enter Tryz.func90, Tryz.ntmps90
    go_wp2
    go_ret
    exact ⟨by rw [HG.out]; rfl, HB.out⟩
end
end Go.Proofs.YtbejpafephofaaaGreat
