/-
  Two sides of the law's own (Tw); the law's known.
-/
import Derived.Test.YtdakbedohjemeaaYo
import Derived.Test.YtdakbedohjemeaaPz
namespace Go.Proofs.Ytdakbedohjemeaa
section
set_option linter.unusedVariables false
set_option linter.unusedSimpArgs false
open Go.RowKit Go.ChangeShapes Go.WideShapes Go.Deep
/-- Two sides that the call made behind the world w0; F: blocks that they have nothing to do with. -/
structure Tw (w0 W : World) (p q : Nat) (X Y : HS) (F : Nat → Prop) : Prop where
  okx : X.ok
  oky : Y.ok
  bf : ∃ Ox Oy, Hm W w0.heap.size p Ox X ∧ Hm W w0.heap.size q Oy Y ∧ (∀ b, Ox b → ¬ Oy b) ∧ ∀ b, F b → ¬ Ox b ∧ ¬ Oy b ∧ b < W.heap.size
  bl : Below w0.heap.size w0 W
def TwPost (w0 W : World) (p q : Nat) (X' Y' : HS) (F : Nat → Prop) (W' : World) : Prop := Tw w0 W' p q X' Y' F ∧ (∀ b, F b → W'.heap[b]? = W.heap[b]?) ∧ W.heap.size ≤ W'.heap.size
section
variable {w0 W W' W1 : World} {p q : Nat} {X Y X' Y' : HS} {F F' : Nat → Prop}
theorem Tw.swap (h : Tw w0 W p q X Y F) : Tw w0 W q p Y X F := by
  obtain ⟨Ox, Oy, h1, h2, h3, h4⟩ := h.bf
  exact ⟨h.oky, h.okx, ⟨Oy, Ox, h2, h1, fun b hy hx => h3 b hx hy, fun b hb => ⟨(h4 b hb).2.1, (h4 b hb).1, (h4 b hb).2.2⟩⟩, h.bl⟩
theorem Tw.below (h : Tw w0 W p q X Y F) (k : Below W.heap.size W W') : Tw w0 W' p q X Y F := by
  obtain ⟨Ox, Oy, h1, h2, h3, h4⟩ := h.bf
  exact ⟨h.okx, h.oky, ⟨Ox, Oy, h1.below k, h2.below k, h3, fun b hb => ⟨(h4 b hb).1, (h4 b hb).2.1, Nat.lt_of_lt_of_le (h4 b hb).2.2 k.size⟩⟩, h.bl.trans (k.mono h.bl.size)⟩
theorem Tw.drewN (h : Tw w0 W p q X Y F) (n : Nat) : Tw w0 (W.drewN n) p q X Y F := h.below (belowN (Below.refl _ _) n)
theorem Tw.fresh (h : Tw w0 W p q X Y F) (k : Below W.heap.size W W') (hF : ∀ b, F' b → F b ∨ (W.heap.size ≤ b ∧ b < W'.heap.size)) : Tw w0 W' p q X Y F' := by
  obtain ⟨Ox, Oy, h1, h2, h3, h4⟩ := h.bf
  refine ⟨h.okx, h.oky, ⟨Ox, Oy, h1.below k, h2.below k, h3, fun b hb => ?_⟩, h.bl.trans (k.mono h.bl.size)⟩
  rcases hF b hb with h' | ⟨h', h''⟩
  · exact ⟨(h4 b h').1, (h4 b h').2.1, Nat.lt_of_lt_of_le (h4 b h').2.2 k.size⟩
  · exact ⟨fun e => by have := (h1.lt b e).2; omega, fun e => by have := (h2.lt b e).2; omega, h''⟩
/-- A cell of a block beside is set. -/
theorem Tw.set (h : Tw w0 W p q X Y F) {b : Nat} (hb : F b) (hw : w0.heap.size ≤ b) (j : Nat) (u : Value) : Tw w0 (W.setCell ⟨b, j, none⟩ u) p q X Y F := by
  obtain ⟨Ox, Oy, h1, h2, h3, h4⟩ := h.bf
  have k : Kept (· = b) W (W.setCell ⟨b, j, none⟩ u) := (Kept.refl _ _).setAt j u
  exact ⟨h.okx, h.oky, ⟨Ox, Oy, h1.kept k (fun i hi e => (h4 b hb).1 (by rw [← e]; exact hi)), h2.kept k (fun i hi e => (h4 b hb).2.1 (by rw [← e]; exact hi)), h3, fun i hi => ⟨(h4 i hi).1, (h4 i hi).2.1, Nat.lt_of_lt_of_le (h4 i hi).2.2 k.size⟩⟩, k.below h.bl h.bl.size (by intro i hi; omega)⟩
theorem tw_feed (h : Tw w0 W p q X Y F) (k : Below W.heap.size W W1) (space : Int) (A : Option Addr) (n c : Nat) (bs : List Int) (hr : RdP W1 (fun b => F b ∨ W.heap.size ≤ b) A n bs) (hn : n ≤ 140737488355000) :
    Calls Try.prog 20 #[.pointer (some ⟨p, 0, none⟩), .int .i64 space, .slice A n c] W1 fun e w' => e = .returned (.int .i64 (feedX X space bs).code) ∧ TwPost w0 W1 p q (feedX X space bs) Y F w' := by
  obtain ⟨Ox, Oy, h1, h2, h3, h4⟩ := h.bf
  have hx := h1.below k
  have hb := h.bl.trans (k.mono h.bl.size)
  refine (h_feed hx h.okx space A n c bs (hr.mono fun b _ hb e => hb.elim (fun hb => (h4 b hb).1 e) fun hb => by have := (h1.lt b e).2; omega) hn hb.size).mono fun e w' hP => ?_
  obtain ⟨he, O', g1, g2, g3⟩ := hP
  have hs := k.size
  refine ⟨he, ⟨feedX_ok h.okx space bs, h.oky, ⟨O', Oy, g1, (h2.below k).kept g2 (fun j hj e => h3 j e hj), fun b hb e => ?_, fun b hb => ⟨fun e => ?_, (h4 b hb).2.1, ?_⟩⟩, g2.below hb hb.size fun j hj => (h1.lt j hj).1⟩, fun b hb => ?_, g2.size⟩
  · rcases g3 b hb with h' | h'
    · exact h3 b h' e
    · have := (h2.lt b e).2; omega
  · rcases g3 b e with h' | h'
    · exact (h4 b hb).1 h'
    · have := (h4 b hb).2.2; omega
  · exact Nat.lt_of_lt_of_le (Nat.lt_of_lt_of_le (h4 b hb).2.2 hs) g2.size
  · exact g2.block b (Nat.lt_of_lt_of_le (h4 b hb).2.2 hs) (h4 b hb).1
theorem tw_out (h : Tw w0 W p q X Y F) (space : Int) : Calls Try.prog 19 #[.pointer (some ⟨p, 0, none⟩), .int .i64 space] W fun e w' => ∃ v, e = .returned v ∧ Own w' W.heap.size 5 v (outS X space) ∧ Below W.heap.size W w' := by
  obtain ⟨Ox, Oy, h1, _⟩ := h.bf
  exact h_out h1 h.okx space
theorem tw_secret (h : Tw w0 W p q X Y F) (space : Int) : Calls Try.prog 21 #[.pointer (some ⟨p, 0, none⟩), .int .i64 space] W fun e w' => e = .returned (.tuple #[.int .u64 (secS X space).1, .bool (secS X space).2]) ∧ Below W.heap.size W w' := by
  obtain ⟨Ox, Oy, h1, _⟩ := h.bf
  exact h_secret h1 h.okx space
theorem tw_theirs (h : Tw w0 W p q X Y F) : Calls Try.prog 18 #[.pointer (some ⟨p, 0, none⟩)] W fun e w' => e = .returned (.tuple #[pmV X.th, .bool (greetB X)]) ∧ Below W.heap.size W w' := by
  obtain ⟨Ox, Oy, h1, _⟩ := h.bf
  exact h_theirs h1 h.okx
theorem tw_done (h : Tw w0 W p q X Y F) : Calls Try.prog 9 #[.pointer (some ⟨p, 0, none⟩)] W fun e w' => e = .returned (.bool (doneB X)) ∧ w' = W := by
  obtain ⟨Ox, Oy, h1, _⟩ := h.bf
  exact h_done h1 h.okx
/-- Two that were made one behind the other. -/
theorem tw_of {M : Nat} {Ox Oy : Nat → Prop} (okx : X.ok) (oky : Y.ok) (h1 : Hm W M p Ox X) (hM : w0.heap.size ≤ M) (k : Below W.heap.size W W1) (h2 : Hm W1 W.heap.size q Oy Y) (hb : Below w0.heap.size w0 W1) (hF : ∀ b, F b → b < M) : Tw w0 W1 p q X Y F := by
  have base : ∀ {w : World} {b b' r : Nat} {O : Nat → Prop} {Z : HS}, Hm w b r O Z → b' ≤ b → Hm w b' r O Z := by
    rintro w b b' r O Z ⟨vo, vh, h, rfl⟩ hb
    exact ⟨vo, vh, { h with bp := Nat.le_trans hb h.bp, own := h.own.base_ hb, held := h.held.base_ hb }, rfl⟩
  have hMW : M ≤ W.heap.size := by
    obtain ⟨_, _, h, _⟩ := h1
    exact Nat.le_of_lt (Nat.lt_of_le_of_lt h.bp h.at_.lt)
  refine ⟨okx, oky, ⟨Ox, Oy, base (h1.below k) hM, base h2 (by omega), fun b hx hy => ?_, fun b hb' => ?_⟩, hb⟩
  · have := (h1.lt b hx).2; have := (h2.lt b hy).1; omega
  · have := hF b hb'
    have := k.size
    exact ⟨fun e => by have := (h1.lt b e).1; omega, fun e => by have := (h2.lt b e).1; omega, by omega⟩
end
section
variable {ops : Array Oper} {rest : List Oper} {a : Act} {w : World} {Q : Exit → Act → World → Prop} {dst : Option Tmp} {x y : Operand} {t : TypeId} {pos : String} {after : Array Edge}
theorem at_stcid (h : wpList Try.prog ops Q (⟨dst, .store 24 x y, t, pos, after, none⟩ :: rest) a w) : wpList Try.prog ops Q (⟨dst, .store 24 x y, t, pos, after, none⟩ :: rest) a w := h
end
def c7N : N8 := ⟨7, 0, 0, 0, 0, 0, 0, 0⟩
set_option maxRecDepth 100000 in
theorem first7 : firstS c7N = keyedS 504403158265495552 initialB := by
  unfold firstS
  have : numS c7N.l = 504403158265495552 := by
    have h : b8 504403158265495552 = c7N := by decide
    rw [← h]
    exact num_bytes _ (by omega) (by omega)
  rw [this]
def X0k : HS := hs0 true 5 (rndS 1) .zero
theorem X0k_out : outS (noHeld (coded X0k 10)) 0 = [1, 0, 18, 1, 0, 1, 0, 0, 0, 0, 0, 0, 8, 0, 0, 0, 0, 0, 0, 0, 0] := by decide
end
section
set_option linter.unusedVariables false
set_option linter.unusedSimpArgs false
open Go.RowKit
structure Awaits (Z : HS) (space what : Int) (b : List Int) : Prop where
  code : Z.code = 0
  held : Z.held = []
  aw : (Z.st = 0 ∧ space = 0 ∧ what = 1) ∨ (Z.st = 1 ∧ space = 1 ∧ what = 20)
  bl : b.length ≤ 200
theorem withHeld_self {Z : HS} {l : List Int} (h : Z.held = l) : withHeld Z l = Z := by cases Z; simp only at h; subst h; rfl
theorem coded_self {Z : HS} {c : Int} (h : Z.code = c) : coded Z c = Z := by cases Z; simp only at h; subst h; rfl
theorem noHeld_self {Z : HS} (h : Z.held = []) : noHeld Z = Z := withHeld_self h
theorem take_step (Z : HS) (space x : Int) (T : List Int) (h : awaitB (withHeld Z T) space x = true) :
    takeX (withHeld Z T) space x = (if (T ++ [x]).length < 3 then withHeld Z (T ++ [x]) else if 200 < numTwo (T ++ [x]) then withHeld Z (T ++ [x]) else if (((T ++ [x]).length - 3 : Nat) : Int) < numTwo (T ++ [x]) then withHeld Z (T ++ [x]) else readX (noHeld Z) ((T ++ [x]).drop 3)) ∧
    takeE (withHeld Z T) space x = (if (T ++ [x]).length < 3 then 0 else if 200 < numTwo (T ++ [x]) then 10 else if (((T ++ [x]).length - 3 : Nat) : Int) < numTwo (T ++ [x]) then 0 else readE (noHeld Z) ((T ++ [x]).drop 3)) := by
  constructor
  · unfold takeX
    rw [if_neg (by rw [h]; simp)]
    rfl
  · unfold takeE
    rw [if_neg (by rw [h]; simp)]
    rfl
theorem msg_two (what : Int) (b : List Int) (k : Nat) (h : 3 ≤ k) : numTwo ((msgS what b).take k) = b.length := by
  obtain ⟨j, rfl⟩ : ∃ j, k = j + 3 := ⟨k - 3, by omega⟩
  show ((b.length : Int) / 256) * 256 + (b.length : Int) % 256 = b.length
  omega
theorem msg_snoc (what : Int) (b : List Int) (k : Nat) (h : k < b.length + 3) : ∃ x, (msgS what b).take (k + 1) = (msgS what b).take k ++ [x] ∧ (k = 0 → x = what) := by
  have hk : k < (msgS what b).length := by rw [msgS_len]; exact h
  refine ⟨(msgS what b)[k], List.take_succ_eq_append_getElem hk, fun e => ?_⟩
  subst e
  rfl
section
variable {Z : HS} {space what : Int} {b : List Int}
theorem Awaits.await (h : Awaits Z space what b) (k : Nat) (x : Int) (hk : k ≤ (msgS what b).length) (hx : k = 0 → x = what) : awaitB (withHeld Z ((msgS what b).take k)) space x = true := by
  have hh : k ≠ 0 → (msgS what b).take k ≠ [] := fun h0 e => by
    have := congrArg List.length e
    rw [List.length_take, List.length_nil, msgS_len] at this
    omega
  have hc : (withHeld Z ((msgS what b).take k)).held ≠ [] ∨ x = what := by
    by_cases h0 : k = 0
    · exact .inr (hx h0)
    · exact .inl (hh h0)
  generalize (msgS what b).take k = T at *
  unfold awaitB
  rcases h.aw with ⟨h1, h2, h3⟩ | ⟨h1, h2, h3⟩
  · rw [if_pos (show (withHeld Z T).st = 0 from h1)]
    rw [h3] at hc
    simp only [h2, decide_eq_true_eq, true_and]
    rw [← h3]
    rw [h3]
    exact hc
  · rw [if_neg (show ¬ (withHeld Z T).st = 0 by show ¬ Z.st = 0; omega), if_pos (show (withHeld Z T).st = 1 from h1)]
    rw [h3] at hc
    simp only [h2, decide_eq_true_eq, true_and]
    exact hc
theorem feed_part (h : Awaits Z space what b) : ∀ k, k < b.length + 3 → feedX Z space ((msgS what b).take k) = withHeld Z ((msgS what b).take k)
  | 0, _ => (withHeld_self h.held).symm
  | k + 1, hk => by
    obtain ⟨x, e, hx⟩ := msg_snoc what b k (by omega)
    have ih := feed_part h k (by omega)
    have hl : ((msgS what b).take (k + 1)).length = k + 1 := by rw [List.length_take, msgS_len]; omega
    obtain ⟨s1, s2⟩ := take_step Z space x _ (h.await k x (by rw [msgS_len]; omega) hx)
    rw [← e, hl] at s1 s2
    have e1 : takeX (withHeld Z ((msgS what b).take k)) space x = withHeld Z ((msgS what b).take (k + 1)) ∧ takeE (withHeld Z ((msgS what b).take k)) space x = 0 := by
      rw [s1, s2]
      by_cases h3 : k + 1 < 3
      · rw [if_pos h3, if_pos h3]; exact ⟨rfl, rfl⟩
      · have hb := h.bl
        have hm := msg_two what b (k + 1) (by omega)
        rw [if_neg h3, if_neg h3, hm]
        have q1 : ¬ (200 : Int) < (b.length : Int) := by omega
        have q2 : ((k + 1 - 3 : Nat) : Int) < (b.length : Int) := by omega
        rw [if_neg q1, if_neg q1, if_pos q2, if_pos q2]
        exact ⟨rfl, rfl⟩
    rw [e, feedX_snoc, ih]
    unfold feed1
    rw [if_neg (show ¬ (withHeld Z _).code ≠ 0 by show ¬ Z.code ≠ 0; rw [h.code]; simp), if_pos e1.2, e1.1, e]
    exact coded_self h.code
theorem feed_full (h : Awaits Z space what b) (h0 : readE Z b = 0) (hc : (readX Z b).code = 0) : feedX Z space (msgS what b) = readX Z b := by
  obtain ⟨x, e, hx⟩ := msg_snoc what b (b.length + 2) (by omega)
  have hl : (msgS what b).take (b.length + 2 + 1) = msgS what b := List.take_of_length_le (by rw [msgS_len]; omega)
  obtain ⟨s1, s2⟩ := take_step Z space x _ (h.await (b.length + 2) x (by rw [msgS_len]; omega) hx)
  have ht := msg_two what b (b.length + 2 + 1) (by omega)
  rw [hl] at e ht
  rw [← e, msgS_len, ht] at s1 s2
  have hb := h.bl
  have hd : (msgS what b).drop 3 = b := rfl
  rw [if_neg (by omega), if_neg (by omega), if_neg (by omega), noHeld_self h.held, hd] at s1 s2
  rw [e, feedX_snoc, feed_part h _ (by omega)]
  unfold feed1
  rw [if_neg (show ¬ (withHeld Z _).code ≠ 0 by show ¬ Z.code ≠ 0; rw [h.code]; simp), s2, if_pos h0, s1]
  exact coded_self hc
end
/-- The way of one side: Z0 awaits b1, Zg awaits b2, Ze nothing. -/
structure Way (Z0 Zg Ze : HS) (b1 b2 : List Int) : Prop where
  a1 : Awaits Z0 0 1 b1
  a2 : Awaits Zg 1 20 b2
  e1 : readE Z0 b1 = 0
  r1 : readX Z0 b1 = Zg
  e2 : readE Zg b2 = 0
  r2 : readX Zg b2 = Ze
  ec : Ze.code = 0
  l2 : b2.length = 8
  s0 : Z0.st = 0
  sg : Zg.st = 1
  se : Ze.st = 2
/-- Behind so many bytes of each. -/
def wayX (Z0 : HS) (b1 b2 : List Int) (c0 c1 : Nat) : HS := feedX (feedX Z0 0 ((msgS 1 b1).take c0)) 1 ((msgS 20 b2).take c1)
section
variable {Z0 Zg Ze : HS} {b1 b2 : List Int}
theorem Way.early (h : Way Z0 Zg Ze b1 b2) {c0 : Nat} (hc : c0 < b1.length + 3) : wayX Z0 b1 b2 c0 0 = withHeld Z0 ((msgS 1 b1).take c0) := feed_part h.a1 c0 hc
theorem Way.first (h : Way Z0 Zg Ze b1 b2) : feedX Z0 0 ((msgS 1 b1).take (b1.length + 3)) = Zg := by
  rw [List.take_of_length_le (by rw [msgS_len]; exact Nat.le_refl _), feed_full h.a1 h.e1 (by rw [h.r1]; exact h.a2.code), h.r1]
theorem Way.mid (h : Way Z0 Zg Ze b1 b2) {c1 : Nat} (hc : c1 < 11) : wayX Z0 b1 b2 (b1.length + 3) c1 = withHeld Zg ((msgS 20 b2).take c1) := by
  unfold wayX
  rw [h.first]
  exact feed_part h.a2 c1 (by rw [h.l2]; exact hc)
theorem Way.last (h : Way Z0 Zg Ze b1 b2) : wayX Z0 b1 b2 (b1.length + 3) 11 = Ze := by
  unfold wayX
  rw [h.first, List.take_of_length_le (by rw [msgS_len, h.l2]; omega), feed_full h.a2 h.e2 (by rw [h.r2]; exact h.ec), h.r2]
/-- The three that there are. -/
theorem Way.cases (h : Way Z0 Zg Ze b1 b2) {c0 c1 : Nat} (h0 : c0 ≤ b1.length + 3) (h1 : c1 ≤ 11) (h2 : 0 < c1 → c0 = b1.length + 3) :
    (c0 < b1.length + 3 ∧ c1 = 0 ∧ ∃ l, wayX Z0 b1 b2 c0 c1 = withHeld Z0 l) ∨ (c0 = b1.length + 3 ∧ c1 < 11 ∧ ∃ l, wayX Z0 b1 b2 c0 c1 = withHeld Zg l) ∨ (c0 = b1.length + 3 ∧ c1 = 11 ∧ wayX Z0 b1 b2 c0 c1 = Ze) := by
  by_cases hc : c0 < b1.length + 3
  · obtain rfl : c1 = 0 := by omega
    exact .inl ⟨hc, rfl, _, h.early hc⟩
  · obtain rfl : c0 = b1.length + 3 := by omega
    by_cases hc1 : c1 < 11
    · exact .inr (.inl ⟨rfl, hc1, _, h.mid hc1⟩)
    · obtain rfl : c1 = 11 := by omega
      exact .inr (.inr ⟨rfl, rfl, h.last⟩)
theorem Way.code0 (h : Way Z0 Zg Ze b1 b2) {c0 c1 : Nat} (h0 : c0 ≤ b1.length + 3) (h1 : c1 ≤ 11) (h2 : 0 < c1 → c0 = b1.length + 3) : (wayX Z0 b1 b2 c0 c1).code = 0 := by
  rcases h.cases h0 h1 h2 with ⟨_, _, l, e⟩ | ⟨_, _, l, e⟩ | ⟨_, _, e⟩
  · rw [e]; exact h.a1.code
  · rw [e]; exact h.a2.code
  · rw [e]; exact h.ec
theorem Way.greet (h : Way Z0 Zg Ze b1 b2) {c0 c1 : Nat} (h0 : c0 ≤ b1.length + 3) (h1 : c1 ≤ 11) (h2 : 0 < c1 → c0 = b1.length + 3) : greetB (wayX Z0 b1 b2 c0 c1) = decide (c0 = b1.length + 3) := by
  rcases h.cases h0 h1 h2 with ⟨k0, _, l, e⟩ | ⟨k0, _, l, e⟩ | ⟨k0, _, e⟩
  · rw [e, decide_eq_false (by omega)]; show decide (Z0.st ≠ 0) = false; rw [h.s0]; rfl
  · rw [e, decide_eq_true k0]; show decide (Zg.st ≠ 0) = true; rw [h.sg]; rfl
  · rw [e, decide_eq_true k0]; show decide (Ze.st ≠ 0) = true; rw [h.se]; rfl
theorem Way.done (h : Way Z0 Zg Ze b1 b2) {c0 c1 : Nat} (h0 : c0 ≤ b1.length + 3) (h1 : c1 ≤ 11) (h2 : 0 < c1 → c0 = b1.length + 3) : doneB (wayX Z0 b1 b2 c0 c1) = decide (c1 = 11) := by
  rcases h.cases h0 h1 h2 with ⟨k0, k1, l, e⟩ | ⟨k0, k1, l, e⟩ | ⟨k0, k1, e⟩
  · rw [e, decide_eq_false (by omega)]; show decide (Z0.st = 2) = false; rw [h.s0]; rfl
  · rw [e, decide_eq_false (by omega)]; show decide (Zg.st = 2) = false; rw [h.sg]; rfl
  · rw [e, decide_eq_true k1]; show decide (Ze.st = 2) = true; rw [h.se]; rfl
/-- A piece more of the first, of the second. -/
theorem way_first (c0 k : Nat) : feedX (wayX Z0 b1 b2 c0 0) 0 (((msgS 1 b1).drop c0).take k) = wayX Z0 b1 b2 (c0 + k) 0 := by
  show feedX (feedX Z0 0 ((msgS 1 b1).take c0)) 0 _ = feedX Z0 0 ((msgS 1 b1).take (c0 + k))
  rw [← feedX_app, List.take_add]
theorem way_second (c0 c1 k : Nat) : feedX (wayX Z0 b1 b2 c0 c1) 1 (((msgS 20 b2).drop c1).take k) = wayX Z0 b1 b2 c0 (c1 + k) := by
  unfold wayX
  rw [← feedX_app, List.take_add]
end
end
end Go.Proofs.Ytdakbedohjemeaa
