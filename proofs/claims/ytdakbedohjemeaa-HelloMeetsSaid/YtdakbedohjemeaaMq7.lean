/-
  Package octet's Writer: what each call writes behind whatever was written. Condition: fewer than 2^46 bytes in all.
-/
import Derived.Test.YtdakbedohjemeaaMq4
import Derived.Test.YtdakbedohjemeaaMq0
namespace Go.Proofs.Ytdakbedohjemeaa
section
set_option linter.unusedVariables false
open Go.RowKit
def Wtr (w : World) (base p : Nat) (T : TypeId) (v : Value) (bs : List Int) : Prop :=
  At w p T [v] ∧ base ≤ p ∧ Own w base 5 v bs ∧ v.ownBlock ≠ some p
/-- Only block p, and the row that it held, may have turned. -/
abbrev WS (p : Nat) (v : Value) : Nat → Prop := fun j => j = p ∨ v.ownBlock = some j
def WPost (r : Value) (w : World) (base p : Nat) (T : TypeId) (v : Value) (bs : List Int) (e : Ending) (w' : World) : Prop :=
  ∃ v', e = .returned r ∧ Wtr w' base p T v' bs ∧ (v'.ownBlock = v.ownBlock ∨ ∃ k, w.heap.size ≤ k ∧ v'.ownBlock = some k) ∧ Kept (WS p v) w w'
set_option maxRecDepth 100000 in
theorem Own.shape {w : World} {base : Nat} {e : TypeId} {v : Value} {bs : List Int} (h : Own w base e v bs) : ∃ A n c, v = .slice A n c := by
  obtain ⟨A, c, h, _⟩ := h.open_
  exact ⟨A, _, c, h⟩
set_option maxRecDepth 100000 in
/-- What append leaves, and the store behind it. -/
theorem Wtr.put {w w1 w2 : World} {base p : Nat} {T : TypeId} {v v' : Value} {bs bs' : List Int} (h : Wtr w base p T v bs) (hw1 : Below w.heap.size w w1) (hown : Own w2 base 5 v' bs') (hg : w1.grownBy w2 v.ownBlock)
    (hv : v'.ownBlock = v.ownBlock ∨ v'.ownBlock = some w1.heap.size) :
    Wtr (w2.setCell ⟨p, 0, none⟩ v') base p T v' bs' ∧ (v'.ownBlock = v.ownBlock ∨ ∃ k, w.heap.size ≤ k ∧ v'.ownBlock = some k) ∧ Kept (WS p v) w (w2.setCell ⟨p, 0, none⟩ v') ∧ w2.cell? ⟨p, 0, none⟩ = some v ∧ w2.frozen? ⟨p, 0, none⟩ = false := by
  obtain ⟨hA, hbp, ho, hne⟩ := h
  have hlt := hA.lt
  have hsz := hw1.size
  have k1 : Kept (WS p v) w w1 := Kept.of_below hw1 _
  have k2 : Kept (fun j => v.ownBlock = some j) w1 w2 := Kept.of_grown hg (fun k hk => .inl hk)
  have A1 : At w1 p T [v] := hA.below hw1 hlt
  have A2 : At w2 p T [v] := A1.kept k2 hne
  have hne' : v'.ownBlock ≠ some p := by
    rcases hv with h | h
    · rw [h]; exact hne
    · rw [h]; intro e; injection e; omega
  have kk : Kept (WS p v) w w2 := k1.trans' k2 fun j hj => .inl (.inr hj)
  refine ⟨⟨A2.set 0 v', hbp, hown.kept ((Kept.refl (· = p) _).setAt 0 v') (fun j hj e => hne' (by rw [hj, e])), hne'⟩, ?_, kk.setCell (.inl (.inl rfl)) _, A2.cell 0, A2.frozen 0⟩
  rcases hv with h | h
  · exact .inl h
  · exact .inr ⟨_, hsz, h⟩
set_option maxRecDepth 100000 in
theorem wbyte_any (base p : Nat) (T : TypeId) (v : Value) (bs : List Int) (x : Int) (w : World) (h : Wtr w base p T v bs) (hl : bs.length ≤ 100000000000000) (h0 : 0 ≤ x) (h1 : x < 256) (hbase : base ≤ w.heap.size) :
    Calls Try.prog 50 #[.pointer (some ⟨p, 0, none⟩), .int .u8 x] w (WPost (.tuple #[]) w base p T v (bs ++ [x])) := by
  obtain ⟨i0, hi, hz0, hz1, hz2⟩ := info_parts u8_info
  have c0 := h.1.cell 0
  go_enter Try.func50, Try.ntmps50
  go_wp2_with (at_builtin; refine wpList_append_at rfl (.tmp 8) (.tmp 10) 31 rfl base 5 i0 Try.underlying31 hi hz0 hz1 hz2 _ bs rfl (h.2.2.1.alloc _) _ _ 1 1 [x] rfl (Rd.byte w 5 _ rfl x ⟨h0, h1⟩) (by omega) (by simp; omega) ?_; intro v' w2 hown2 hgr2 hv2; obtain ⟨A', n', c', rfl⟩ := hown2.shape; obtain ⟨P1, P2, P3, P4, P5⟩ := h.put ((Below.refl _ _).alloc (Nat.le_refl _) _) hown2 hgr2 hv2; have P1' := Lib.hid P1; have P2' := Lib.hid P2; clear P1 P2 hgr2 hv2)
  go_end0
  exact ⟨_, rfl, P1'.out, P2'.out, P3⟩
def twoB (n : Int) : List Int := [n / 256, n % 256]
set_option maxRecDepth 100000 in
theorem wtwo_any (base p : Nat) (T : TypeId) (v : Value) (bs : List Int) (x : Int) (w : World) (h : Wtr w base p T v bs) (hl : bs.length ≤ 100000000000000) (h0 : 0 ≤ x) (h1 : x < 65536) (hbase : base ≤ w.heap.size) :
    Calls Try.prog 51 #[.pointer (some ⟨p, 0, none⟩), .int .u16 x] w (WPost (.tuple #[]) w base p T v (bs ++ twoB x)) := by
  obtain ⟨i0, hi, hz0, hz1, hz2⟩ := info_parts u8_info
  have c0 := h.1.cell 0
  have e1 : IntKind.u8.wrap (x / 256) = x / 256 := by rw [IntKind.wrap_u8]; omega
  have e2 : IntKind.u8.wrap x = x % 256 := by rw [IntKind.wrap_u8]
  have hby : Byt [x / 256, x % 256] := fun y hy => by simp at hy; omega
  go_enter Try.func51, Try.ntmps51
  go_wp2_with (at_builtin; refine wpList_append_at rfl (.tmp 8) (.tmp 14) 31 rfl base 5 i0 Try.underlying31 hi hz0 hz1 hz2 _ bs rfl (h.2.2.1.alloc _) _ _ 2 2 [x / 256, x % 256] rfl (Rd.lit w 5 _ hby _ rfl) (by omega) (by simp; omega) ?_; intro v' w2 hown2 hgr2 hv2; obtain ⟨A', n', c', rfl⟩ := hown2.shape; obtain ⟨P1, P2, P3, P4, P5⟩ := h.put ((Below.refl _ _).alloc (Nat.le_refl _) _) hown2 hgr2 hv2; have P1' := Lib.hid P1; have P2' := Lib.hid P2; clear P1 P2 hgr2 hv2)
  go_end0
  exact ⟨_, rfl, P1'.out, P2'.out, P3⟩
set_option maxRecDepth 100000 in
theorem wraw_any (base p : Nat) (T : TypeId) (v : Value) (bs : List Int) (A : Option Addr) (n c : Nat) (xs : List Int) (w : World) (h : Wtr w base p T v bs) (hl : bs.length + n ≤ 140737488355000) (hr : Rd w w.heap.size A n xs) (hbase : base ≤ w.heap.size) :
    Calls Try.prog 52 #[.pointer (some ⟨p, 0, none⟩), .slice A n c] w (WPost (.tuple #[]) w base p T v (bs ++ xs)) := by
  obtain ⟨i0, hi, hz0, hz1, hz2⟩ := info_parts u8_info
  have c0 := h.1.cell 0
  go_enter Try.func52, Try.ntmps52
  go_wp2_with (at_builtin; refine wpList_append_at rfl (.tmp 8) (.tmp 9) 31 rfl base 5 i0 Try.underlying31 hi hz0 hz1 hz2 _ bs rfl h.2.2.1 _ A n c xs rfl hr (by omega) hbase ?_; intro v' w2 hown2 hgr2 hv2; obtain ⟨A', n', c', rfl⟩ := hown2.shape; obtain ⟨P1, P2, P3, P4, P5⟩ := h.put (Below.refl _ _) hown2 hgr2 hv2; have P1' := Lib.hid P1; have P2' := Lib.hid P2; clear P1 P2 hgr2 hv2)
  go_end0
  exact ⟨_, rfl, P1'.out, P2'.out, P3⟩
set_option maxRecDepth 100000 in
theorem Wtr.kept {S : Nat → Prop} {w w' : World} {base p : Nat} {T : TypeId} {v : Value} {bs : List Int} (h : Wtr w base p T v bs) (k : Kept S w w') (hp : ¬ S p) (hs : ∀ j, v.ownBlock = some j → ¬ S j) : Wtr w' base p T v bs :=
  ⟨h.1.kept k hp, h.2.1, h.2.2.1.kept k hs, h.2.2.2⟩
set_option maxRecDepth 100000 in
/-- What a call does behind one that only made memory. -/
theorem WPost.after {r : Value} {w w1 : World} {base p : Nat} {T : TypeId} {v : Value} {bs : List Int} {e : Ending} {w' : World} (hb : Below w.heap.size w w1) (h : WPost r w1 base p T v bs e w') : WPost r w base p T v bs e w' := by
  obtain ⟨v', h1, h2, h3, h4⟩ := h
  have hs := hb.size
  refine ⟨v', h1, h2, ?_, (Kept.of_below hb _).trans h4⟩
  rcases h3 with h3 | ⟨k, hk, h3⟩
  · exact .inl h3
  · exact .inr ⟨k, by omega, h3⟩
set_option maxRecDepth 100000 in
theorem wvar_yes (base p : Nat) (T : TypeId) (v : Value) (bs : List Int) (x : Int) (w : World) (h : Wtr w base p T v bs) (hl : bs.length ≤ 100000000000000) (h0 : 0 ≤ x) (h1 : x ≤ 4611686018427387903) (hbase : base ≤ w.heap.size) :
    Calls Try.prog 68 #[.pointer (some ⟨p, 0, none⟩), .int .u64 x] w (WPost (.bool true) w base p T v (bs ++ putS x)) := by
  have hpl : ([] ++ putS x).length ≤ 8 := by simp [putS_len]; exact size_le x
  go_enter Try.func68, Try.ntmps68
  go_wp2_with fail
  refine (putvar_yes none 0 0 [] x w (Rd.none_ _ _ _) (by omega) h0 h1).mono ?_
  rintro e w1 ⟨q, rfl, hq, hb⟩
  obtain ⟨A, c, rfl, g1, g2, g3⟩ := hq.open_
  have hsz := hb.size
  have hw1 : Wtr w1 base p T v bs := h.kept (Kept.of_below hb (fun _ => False)) (fun h => h) (fun _ _ h => h)
  clear hq
  go_wp2_with fail
  refine (wraw_any base p T v bs A _ c ([] ++ putS x) w1 hw1 (by omega) g3 (by omega)).mono ?_
  rintro e w2 hw2
  obtain ⟨v', rfl, k1, k2, k3⟩ := WPost.after hb hw2
  go_wp2_with fail
  go_ret
  exact ⟨v', rfl, by simpa using k1, k2, k3⟩
def textB (xs : List Int) : List Int := putS (xs.length : Int) ++ xs
set_option maxRecDepth 100000 in
theorem wtext_any (base p : Nat) (T : TypeId) (v : Value) (bs : List Int) (A : Option Addr) (n c : Nat) (xs : List Int) (w : World) (h : Wtr w base p T v bs) (hl : bs.length ≤ 10000000000000) (hn : n ≤ 10000000000000) (hr : Rd w w.heap.size A n xs) (hrv : ∀ b off, 0 < n → A = some ⟨b, off, none⟩ → ¬ WS p v b) (hbase : base ≤ w.heap.size) :
    Calls Try.prog 69 #[.pointer (some ⟨p, 0, none⟩), .slice A n c] w (WPost (.tuple #[]) w base p T v (bs ++ textB xs)) := by
  have hrp : RdP w (fun b => ¬ WS p v b) A n xs := ⟨hr, hrv⟩
  have e0 := Lib.hid (show (n : Int) = (xs.length : Int) by rw [hr.1])
  have e1 := Lib.hid (show bs ++ putS (n : Int) ++ xs = bs ++ textB xs by unfold textB; rw [e0.out, List.append_assoc])
  have hpl : (bs ++ putS (n : Int)).length ≤ bs.length + 8 := by simp [putS_len]; exact size_le _
  go_enter Try.func69, Try.ntmps69
  go_wp2_with fail
  refine (wvar_yes base p T v bs n w h (by omega) (by omega) (by omega) hbase).mono ?_
  rintro e w1 ⟨v1, rfl, h1, h2, h3⟩
  have hr1 := hrp.kept h3 (fun b hb => hb)
  have hsz := h3.size
  go_wp2_with fail
  refine (wraw_any base p T v1 _ A n c xs w1 h1 (by omega) hr1.1 (by omega)).mono ?_
  rintro e w2 ⟨v2, rfl, g1, g2, g3⟩
  go_wp2_with fail
  go_end0
  refine ⟨v2, rfl, e1.out ▸ g1, ?_, h3.trans' g3 fun j hj => ?_⟩
  · rcases g2 with g2 | ⟨k, hk, g2⟩
    · rcases h2 with h2 | ⟨k, hk, h2⟩
      · exact .inl (g2.trans h2)
      · exact .inr ⟨k, hk, g2.trans h2⟩
    · exact .inr ⟨k, by omega, g2⟩
  · rcases hj with hj | hj
    · exact .inl (.inl hj)
    · rcases h2 with h2 | ⟨k, hk, h2⟩
      · exact .inl (.inr (h2 ▸ hj))
      · rw [h2] at hj; injection hj with hj; omega
set_option maxRecDepth 100000 in
theorem Own.nil_cap {w : World} {base : Nat} {e : TypeId} {n c : Nat} {A : Option Addr} {bs : List Int} (h : Own w base e (.slice A n c) bs) : A = none → c = 0 := by
  intro hA
  subst hA
  rcases h.1.2 with ⟨h, _⟩ | ⟨g, cap, cur, h, _⟩
  · injection h
  · injection h with h; cases h
set_option maxRecDepth 100000 in
theorem wdone_any (base p : Nat) (T : TypeId) (v : Value) (bs : List Int) (w : World) (h : Wtr w base p T v bs) (hl : bs.length ≤ 100000000000000) :
    Calls Try.prog 53 #[.pointer (some ⟨p, 0, none⟩)] w fun e w' => ∃ v', e = .returned v' ∧ Own w' w.heap.size 5 v' bs ∧ Below w.heap.size w w' := by
  have ho := h.2.2.1
  obtain ⟨A, c, rfl, h1, h2, h3⟩ := ho.open_
  have hA := ho.nil_cap
  have c0 := h.1.cell 0
  go_enter Try.func53, Try.ntmps53
  go_wp2_with fail
  refine (clone_any A _ c bs w h3 (by omega) hA).mono ?_
  rintro e w1 ⟨q, rfl, hq, hb⟩
  go_wp2_with fail
  go_ret
  exact ⟨_, rfl, hq, hb⟩
set_option maxRecDepth 100000 in
theorem wnew_any (w : World) :
    Calls Try.prog 49 #[] w fun e w' => e = .returned (.pointer (some ⟨w.heap.size, 0, none⟩)) ∧ Wtr w' w.heap.size w.heap.size 106 (.slice none 0 0) [] ∧ w.heap.size < w'.heap.size ∧ Below w.heap.size w w' := by
  go_enter Try.func49, Try.ntmps49
  go_wp2
  go_ret
  exact ⟨rfl, ⟨At.new w _ _, Nat.le_refl _, Own.none_ _ _ _, by simp [Value.ownBlock]⟩, by simp, (Below.refl _ _).alloc (Nat.le_refl _) _⟩
end
section
set_option linter.unusedVariables false
open Go.RowKit
/-- What was written since w: the writer at p held v there, and holds v' in w'. -/
def WSt (w : World) (base p : Nat) (T : TypeId) (v v' : Value) (bs' : List Int) (w' : World) : Prop :=
  Wtr w' base p T v' bs' ∧ (v'.ownBlock = v.ownBlock ∨ ∃ k, w.heap.size ≤ k ∧ v'.ownBlock = some k) ∧ Kept (WS p v) w w'
section
variable {w w1 w2 : World} {base p : Nat} {T : TypeId} {v v1 r : Value} {bs bs1 bs2 : List Int} {e : Ending}
theorem WSt.refl (h : Wtr w base p T v bs) : WSt w base p T v v bs w := ⟨h, .inl rfl, Kept.refl _ _⟩
theorem WSt.step (h : WSt w base p T v v1 bs1 w1) (k : WPost r w1 base p T v1 bs2 e w2) : ∃ v2, e = .returned r ∧ WSt w base p T v v2 bs2 w2 := by
  obtain ⟨h1, h2, h3⟩ := h
  obtain ⟨v2, he, k1, k2, k3⟩ := k
  have hs := h3.size
  refine ⟨v2, he, k1, ?_, h3.trans' k3 fun j hj => ?_⟩
  · rcases k2 with k2 | ⟨i, hi, k2⟩
    · rcases h2 with h2 | ⟨i, hi, h2⟩
      · exact .inl (k2.trans h2)
      · exact .inr ⟨i, hi, k2.trans h2⟩
    · exact .inr ⟨i, by omega, k2⟩
  · rcases hj with hj | hj
    · exact .inl (.inl hj)
    · rcases h2 with h2 | ⟨i, hi, h2⟩
      · exact .inl (.inr (h2 ▸ hj))
      · rw [h2] at hj; injection hj with hj; omega
theorem WSt.below (h : WSt w base p T v v1 bs1 w1) (hb : Below w1.heap.size w1 w2) : WSt w base p T v v1 bs1 w2 := by
  obtain ⟨h1, h2, h3⟩ := h
  exact ⟨h1.kept (Kept.of_below hb (fun _ => False)) (fun h => h) (fun _ _ h => h), h2, h3.trans (Kept.of_below hb _)⟩
theorem WSt.alloc (h : WSt w base p T v v1 bs1 w1) (o : Obj) : WSt w base p T v v1 bs1 (w1.alloc o) := h.below ((Below.refl _ _).alloc (Nat.le_refl _) _)
theorem WSt.post (h : WSt w base p T v v1 bs1 w1) (r : Value) : WPost r w base p T v bs1 (.returned r) w1 := ⟨v1, rfl, h.1, h.2.1, h.2.2⟩
/-- What lay there, elsewhere than the writer, lies there still. -/
theorem WSt.apart (h : WSt w base p T v v1 bs1 w1) : Wtr w base p T v bs → ∀ j, j < w.heap.size → ¬ WS p v j → ¬ WS p v1 j := fun _ j hj hn hs => by
  rcases hs with hs | hs
  · exact hn (.inl hs)
  · rcases h.2.1 with h2 | ⟨i, hi, h2⟩
    · exact hn (.inr (h2 ▸ hs))
    · rw [h2] at hs; injection hs with hs; omega
/-- A new block lies apart from the writer. -/
theorem Wtr.not_new (h : Wtr w base p T v bs) {g : Nat} (hg : w.heap.size ≤ g) : ¬ WS p v g := fun hs => by
  rcases hs with hs | hs
  · have := h.1.lt; omega
  · have := (h.2.2.1.block_lt g hs).2; omega
end
/-- As WSt, but what the writer holds anew lies from block M on. -/
def WSx (w : World) (M base p : Nat) (T : TypeId) (v v' : Value) (bs' : List Int) (w' : World) : Prop :=
  Wtr w' base p T v' bs' ∧ (v'.ownBlock = v.ownBlock ∨ ∃ k, M ≤ k ∧ v'.ownBlock = some k) ∧ Kept (WS p v) w w' ∧ M ≤ w'.heap.size
section
variable {w w1 w2 : World} {M base p : Nat} {T : TypeId} {v v1 r : Value} {bs bs1 bs2 : List Int} {e : Ending}
theorem WSx.refl (h : Wtr w base p T v bs) (hb : Below w.heap.size w w1) : WSx w w1.heap.size base p T v v bs w1 := ⟨h.kept (Kept.of_below hb (fun _ => False)) (fun h => h) (fun _ _ h => h), .inl rfl, Kept.of_below hb _, Nat.le_refl _⟩
theorem WSx.step (h : WSx w M base p T v v1 bs1 w1) (hM : w.heap.size ≤ M) (k : WPost r w1 base p T v1 bs2 e w2) : ∃ v2, e = .returned r ∧ WSx w M base p T v v2 bs2 w2 ∧ Kept (WS p v1) w1 w2 := by
  obtain ⟨h1, h2, h3, h4⟩ := h
  obtain ⟨v2, he, k1, k2, k3⟩ := k
  have hs := k3.size
  refine ⟨v2, he, ⟨k1, ?_, h3.trans' k3 fun j hj => ?_, by omega⟩, k3⟩
  · rcases k2 with k2 | ⟨i, hi, k2⟩
    · rcases h2 with h2 | ⟨i, hi, h2⟩
      · exact .inl (k2.trans h2)
      · exact .inr ⟨i, hi, k2.trans h2⟩
    · exact .inr ⟨i, by omega, k2⟩
  · rcases hj with hj | hj
    · exact .inl (.inl hj)
    · rcases h2 with h2 | ⟨i, hi, h2⟩
      · exact .inl (.inr (h2 ▸ hj))
      · rw [h2] at hj; injection hj with hj; omega
theorem WSx.below (h : WSx w M base p T v v1 bs1 w1) (hb : Below w1.heap.size w1 w2) : WSx w M base p T v v1 bs1 w2 := by
  obtain ⟨h1, h2, h3, h4⟩ := h
  have := hb.size
  exact ⟨h1.kept (Kept.of_below hb (fun _ => False)) (fun h => h) (fun _ _ h => h), h2, h3.trans (Kept.of_below hb _), by omega⟩
theorem WSx.alloc (h : WSx w M base p T v v1 bs1 w1) (o : Obj) : WSx w M base p T v v1 bs1 (w1.alloc o) := h.below ((Below.refl _ _).alloc (Nat.le_refl _) _)
theorem WSx.apart (h : WSx w M base p T v v1 bs1 w1) {j : Nat} (hj : j < M) (hn : ¬ WS p v j) : ¬ WS p v1 j := fun hs => by
  rcases hs with hs | hs
  · exact hn (.inl hs)
  · rcases h.2.1 with h2 | ⟨i, hi, h2⟩
    · exact hn (.inr (h2 ▸ hs))
    · rw [h2] at hs; injection hs with hs; omega
theorem WSx.cell (h : WSx w M base p T v v1 bs1 w1) {g : Nat} (hg : w.heap.size ≤ g) (hgM : g < M) (hn : ¬ WS p v g) (j : Nat) (u : Value) : WSx w M base p T v v1 bs1 (w1.setCell ⟨g, j, none⟩ u) := by
  have ha := h.apart hgM hn
  obtain ⟨h1, h2, h3, h4⟩ := h
  refine ⟨h1.kept (S := (· = g)) ((Kept.refl _ _).setAt j u) (fun e => ha (.inl e.symm)) (fun i hi e => ha (.inr (e ▸ hi))), h2, h3.setCell (.inr hg) _, by simpa [World.setCell] using h4⟩
theorem WSx.post (h : WSx w M base p T v v1 bs1 w1) (hM : w.heap.size ≤ M) (r : Value) : WPost r w base p T v bs1 (.returned r) w1 := by
  refine ⟨v1, rfl, h.1, ?_, h.2.2.1⟩
  rcases h.2.1 with h2 | ⟨i, hi, h2⟩
  · exact .inl h2
  · exact .inr ⟨i, by omega, h2⟩
end
theorem putS_le (x : Int) : (putS x).length ≤ 8 := by rw [putS_len]; exact size_le x
theorem textB_le (xs : List Int) : (textB xs).length ≤ xs.length + 8 := by
  unfold textB; rw [List.length_append, putS_len]; have := size_le (xs.length : Int); omega
end
end Go.Proofs.Ytdakbedohjemeaa
