/-
  SenderKeeps: its state, what each call does to it.
-/
import Derived.Test.YtohahkjikhpamaaMq22
import Derived.Test.YtohahkjikhpamaaMq23
import Derived.Test.YtohahkjikhpamaaFqo
namespace Go.Proofs.Ytohahkjikhpamaa
set_option linter.unusedVariables false
set_option linter.unusedSimpArgs false
open Go.RowKit
theorem size_1 (x : Int) (h0 : 0 ≤ x) (h : x ≤ 63) : (putS x).length = 1 := by rw [putS_len]; unfold sizeS; (repeat' split) <;> omega
theorem size_2 (x : Int) (h0 : 0 ≤ x) (h : x ≤ 16383) : (putS x).length ≤ 2 := by rw [putS_len]; unfold sizeS; (repeat' split) <;> omega
theorem len_m8 (off : Nat) (fin : Bool) (ds : List Int) (hn : ds.length ≤ 492) : (oneS (m8 8 off fin) ds []).length ≤ ds.length + 20 := by
  have h1 : (putS (wkS (m8 8 off fin))).length = 1 := by
    have hk : wkS (m8 8 off fin) = 10 + (if (0 : Int) < off then 4 else 0) + (if fin then 1 else 0) := rfl
    rw [hk]
    refine size_1 _ ?_ ?_ <;> (repeat' split) <;> omega
  have h2 : (putS (8 : Int)).length = 1 := size_1 8 (by decide) (by decide)
  have h3 := putS_le (off : Int)
  have h4 := size_2 (ds.length : Int) (by omega) (by omega)
  have hb : bodyS (m8 8 off fin) ds [] = (if (0 : Int) < off then putS 8 ++ putS off else putS 8) ++ textB ds := rfl
  unfold oneS
  rw [hb, List.length_append, List.length_append, h1]
  unfold textB
  rw [List.length_append]
  split
  · rw [List.length_append, h2]
    omega
  · rw [h2]
    omega
theorem right_m8 (off : Nat) (fin : Bool) (ds : List Int) (hn : ds.length ≤ 492) (ho : off ≤ 1000000) : rightB (m8 8 off fin) ds [] = true := by
  have := rightB_8 8 off 0 0 0 0 0 0 0 0 0 0 0 0 0 fin ds [] ds.length rfl (by decide) (by omega) (by decide) (by decide) (by decide) (by decide) (by decide)
  rw [show m8 8 off fin = ⟨8, 8, off, fin, 0, 0, 0, 0, 0, 0, 0, 0, 0, 0, 0, 0, 0⟩ from rfl, this]
  have h1 : ((ds.length : Nat) : Int) ≤ 512 := by omega
  have h2 : ((off : Nat) : Int) ≤ 1099511627776 := by omega
  have h3 : ((off : Nat) : Int) + ((ds.length : Nat) : Int) ≤ 1099511627776 := by omega
  simp [smL, h1, h2, h3]
theorem right_m4 (code gn : Nat) (hc : code < 100) (hg : gn ≤ 1000000) : rightB (m4 8 code gn) [] [] = true := by
  have := rightB_4 8 0 0 code gn 0 0 0 0 0 0 0 0 0 0 false [] [] 0 rfl (by decide) (by decide) (by decide) (by omega) (by omega) (by decide) (by decide)
  rw [show m4 8 code gn = ⟨4, 8, 0, false, 0, code, gn, 0, 0, 0, 0, 0, 0, 0, 0, 0, 0⟩ from rfl, this]
  have h1 : ((code : Nat) : Int) ≤ 4611686018427387903 := by omega
  have h2 : ((gn : Nat) : Int) ≤ 1099511627776 := by omega
  simp [smL, h1, h2]
/-- The document's bytes of the frames that a sender tells: how many. -/
theorem one_m4 (code gn : Nat) (hc : code < 100) (hg : gn ≤ 1000000) (W : World) : Calls Try.prog 12 #[frV (m4 8 code gn) .nil .nil] W (VPost W.heap.size (oneS (m4 8 code gn) [] []) W) :=
  rone_4 (fun _ => True) 8 0 0 code gn 0 0 0 0 0 0 0 0 0 0 false none 0 0 none 0 0 [] [] W ⟨m4_wf (by decide) (by omega) (by omega), InD.nil_ _ _, InR.nil_ _ _⟩ (right_m4 code gn hc hg)
theorem one_m8 (off : Nat) (fin : Bool) (A : Option Addr) (n c : Nat) (ds : List Int) (hn : n ≤ 492) (ho : off ≤ 1000000) (W : World) (hd : InD W (fun _ => True) ⟨A, n, c⟩ ds) : Calls Try.prog 12 #[frV (m8 8 off fin) ⟨A, n, c⟩ .nil] W (VPost W.heap.size (oneS (m8 8 off fin) ds []) W) := by
  have hl : ds.length = n := hd.rd.len
  have hF : Fits W (fun _ => True) (m8 8 off fin) ⟨A, n, c⟩ .nil ds [] := ⟨m8_wf (by decide) (by omega), hd, InR.nil_ _ _⟩
  have hr := right_m8 off fin ds (by omega) ho
  rcases Nat.eq_zero_or_pos off with h0 | h0
  · subst h0
    cases fin with
    | false => exact rone_8_10 (fun _ => True) 8 0 0 0 0 0 0 0 0 0 0 0 0 0 0 false A n c none 0 0 ds [] W hF hr rfl rfl
    | true => exact rone_8_11 (fun _ => True) 8 0 0 0 0 0 0 0 0 0 0 0 0 0 0 true A n c none 0 0 ds [] W hF hr rfl rfl
  · have hp : (0 : Int) < off := by omega
    cases fin with
    | false => exact rone_8_14 (fun _ => True) 8 off 0 0 0 0 0 0 0 0 0 0 0 0 0 false A n c none 0 0 ds [] W hF hr rfl hp
    | true => exact rone_8_15 (fun _ => True) 8 off 0 0 0 0 0 0 0 0 0 0 0 0 0 true A n c none 0 0 ds [] W hF hr rfl hp
/-- What is sent anew ends below the limit. -/
theorem next_lim (S : OS) (most limit : Nat) (hn : (nextR S most limit).n ≠ 0) : (nextR S most limit).off + (nextR S most limit).n ≤ max S.gn limit := by
  have hf := firstO_le S
  have hr := runF_le S.ag (min most (S.gn - firstO S)) (firstO S)
  unfold nextR fromO at hn ⊢
  by_cases h1 : firstO S < S.gn
  · simp only [if_pos h1] at hn ⊢
    split at hn
    · split at hn <;> exact absurd rfl hn
    · rename_i k
      rw [if_neg k]
      dsimp only
      omega
  · simp only [if_neg h1] at hn ⊢
    split at hn
    · split at hn <;> exact absurd rfl hn
    · rename_i k
      rw [if_neg k]
      dsimp only
      omega
theorem nextO_gl (S : OS) (most limit lim : Nat) (h : S.gn ≤ lim) (hl : limit ≤ lim) : (nextO S most limit).gn ≤ lim := by
  show max S.gn (if (nextR S most limit).n = 0 then 0 else (nextR S most limit).off + (nextR S most limit).n) ≤ lim
  split
  · omega
  · rename_i k
    have := next_lim S most limit k
    omega
/-- The law's state, behind i rounds. -/
structure Kp (w0 W : World) (q p : Nat) (X : SS) (va : Value) (i lim : Nat) (reset over : Bool) (G : Nat → Prop) : Prop where
  sm : Sm w0 W q p X (fun b => G b ∨ va.ownBlock = some b)
  own : Own W w0.heap.size 5 va X.o.bs
  id : X.id = 8
  lim : X.lim = lim
  ov : X.o.ov = over
  rs : reset = decide (5 ≤ X.st)
  code : X.code < 100
  gl : X.o.gn ≤ X.lim
  len : X.o.bs.length ≤ 60 * i
  i60 : i ≤ 60
section
variable {w0 W W' : World} {q p : Nat} {X X' : SS} {va : Value} {i lim lim' : Nat} {reset over reset' over' : Bool} {G : Nat → Prop}
theorem Kp.suc (h : Kp w0 W q p X va i lim reset over G) (hi : i < 60) : Kp w0 W q p X va (i + 1) lim reset over G := { h with len := by have := h.len; omega, i60 := by omega }
theorem Kp.below (h : Kp w0 W q p X va i lim reset over G) (k : Below W.heap.size W W') : Kp w0 W' q p X va i lim reset over G :=
  { h with sm := h.sm.below k, own := h.own.keep fun j hj => k.block j (h.own.block_lt j hj).2 }
theorem Kp.to (h : Kp w0 W q p X va i lim reset over G) (hS : Sm w0 W' q p X' (fun b => G b ∨ va.ownBlock = some b)) (hk : ∀ b, (G b ∨ va.ownBlock = some b) → W'.heap[b]? = W.heap[b]?) (hbs : X'.o.bs = X.o.bs) (hid : X'.id = X.id) (hlim : X'.lim = lim') (hov : X'.o.ov = over') (hrs : reset' = decide (5 ≤ X'.st)) (hc : X'.code < 100) (hgl : X'.o.gn ≤ X'.lim) :
    Kp w0 W' q p X' va i lim' reset' over' G :=
  ⟨hS, by rw [hbs]; exact h.own.keep fun j hj => hk j (.inr hj), hid.trans h.id, hlim, hov, hrs, hc, hgl, by rw [hbs]; exact h.len, h.i60⟩
theorem Kp.len4 (h : Kp w0 W q p X va i lim reset over G) : X.o.bs.length ≤ 3600 := by have := h.len; have := h.i60; omega
/-- What is written is put behind the law's own row. -/
theorem Kp.weakG (h : Kp w0 W q p X va i lim reset over G) : Kp w0 W q p X va i lim reset over (fun _ => False) := { h with sm := h.sm.weak fun b hb => hb.elim False.elim .inr }
theorem Kp.beside (h : Kp w0 W q p X va i lim reset over (fun _ => False)) (L : List Value) (T : TypeId) : Kp w0 (W.alloc (.cells L.toArray T)) q p X va i lim reset over (· = W.heap.size) :=
  have hb : Below W.heap.size W (W.alloc (.cells L.toArray T)) := (Below.refl _ _).alloc (Nat.le_refl _) _
  { h with sm := (h.sm.beside L T).weak (fun b hb => hb.imp (fun x => x) .inr), own := h.own.keep fun j hj => hb.block j (h.own.block_lt j hj).2 }
theorem Kp.write {d : List Int} {v2 : Value} {W2 : World} (h : Kp w0 W q p X va i lim reset over (fun _ => False)) (hi : i < 60) (hd : d.length ≤ 60) (hS : Sm w0 W' q p { X with o := writeO X.o d } (fun b => False ∨ va.ownBlock = some b)) (hk : ∀ b, (False ∨ va.ownBlock = some b) → W'.heap[b]? = W.heap[b]?)
    (h2 : Own W2 w0.heap.size 5 v2 (X.o.bs ++ d.take (writeN X.o d.length))) (hg : W'.grownBy W2 va.ownBlock) (hv : v2.ownBlock = va.ownBlock ∨ v2.ownBlock = some W'.heap.size) : Kp w0 W2 q p { X with o := writeO X.o d } v2 (i + 1) lim reset over (fun _ => False) := by
  have hown : Own W' w0.heap.size 5 va X.o.bs := h.own.keep fun j hj => hk j (.inr hj)
  have hK : Kept (fun b => False ∨ va.ownBlock = some b) W' W2 := Kept.of_grown hg fun k hk => .inl (.inr hk)
  have hl := h.len
  refine ⟨hS.change hK (fun b hb => (hown.block_lt b (hb.resolve_left fun x => x)).1) fun b hb => ?_, h2, h.id, h.lim, h.ov, h.rs, h.code, h.gl, ?_, by omega⟩
  · have hb := hb.resolve_left fun x => x
    rcases hv with e | e
    · left
      right
      rw [← e]
      exact hb
    · right
      have := (h2.block_lt b hb).2
      rw [e] at hb
      injection hb with hb
      omega
  · show (X.o.bs ++ d.take _).length ≤ _
    rw [List.length_append, List.length_take]
    omega
def KpPost (w0 W : World) (q p : Nat) (va : Value) (i lim : Nat) (reset over : Bool) (G : Nat → Prop) (r : Value) (e : Ending) (w' : World) : Prop := e = .returned r ∧ (∃ X', Kp w0 w' q p X' va i lim reset over G) ∧ ∀ b, G b → w'.heap[b]? = W.heap[b]?
theorem kp_finish (h : Kp w0 W q p X va i lim reset over G) : (Calls Try.prog 8 #[.pointer (some ⟨q, 0, none⟩)] W (KpPost w0 W q p va i lim reset over G (.int .i64 24))) ∨ (Calls Try.prog 8 #[.pointer (some ⟨q, 0, none⟩)] W (KpPost w0 W q p va i lim reset true G (.int .i64 0))) := by
  cases hc : X.cl with
  | true => exact .inl ((sm_finish_closed h.sm hc).mono fun e w' hP => ⟨hP.1, ⟨X, by rw [hP.2]; exact h⟩, fun b _ => by rw [hP.2]⟩)
  | false => exact .inr ((sm_finish h.sm hc).mono fun e w' hP => ⟨hP.1, ⟨_, h.to hP.2.1 hP.2.2.1 rfl rfl h.lim rfl h.rs h.code h.gl⟩, fun b hb => hP.2.2.1 b (.inl hb)⟩)
theorem kp_reset (h : Kp w0 W q p X va i lim reset over G) (code : Nat) (hc : code < 100) : (Calls Try.prog 9 #[.pointer (some ⟨q, 0, none⟩), .int .u64 code] W (KpPost w0 W q p va i lim reset over G (.int .i64 24))) ∨ (Calls Try.prog 9 #[.pointer (some ⟨q, 0, none⟩), .int .u64 code] W (KpPost w0 W q p va i lim true over G (.int .i64 0))) := by
  rcases Nat.lt_or_ge X.st 4 with hs | hs
  · exact .inr ((sm_reset h.sm (by omega) code (by omega)).mono fun e w' hP => ⟨hP.1, ⟨_, h.to hP.2.1 hP.2.2.1 rfl rfl h.lim h.ov rfl hc h.gl⟩, fun b hb => hP.2.2.1 b (.inl hb)⟩)
  · exact .inl ((sm_reset_no h.sm hs code).mono fun e w' hP => ⟨hP.1, ⟨X, by rw [hP.2]; exact h⟩, fun b _ => by rw [hP.2]⟩)
theorem kp_limit (h : Kp w0 W q p X va i lim reset over G) (n : Nat) (hn : n < 18446744073709551616) : Calls Try.prog 10 #[.pointer (some ⟨q, 0, none⟩), .int .u64 n] W (KpPost w0 W q p va i (max lim n) reset over G (.tuple #[])) :=
  (sm_limit h.sm n hn).mono fun e w' hP => ⟨hP.1, ⟨_, h.to hP.2.1 hP.2.2.1 rfl rfl (by show max X.lim n = _; rw [h.lim]) h.ov h.rs h.code (by show X.o.gn ≤ max X.lim n; have := h.gl; omega)⟩, fun b hb => hP.2.2.1 b (.inl hb)⟩
/-- What Next tells: nothing; the Reset; bytes. -/
def KnPost (w0 W : World) (q p : Nat) (va : Value) (i lim : Nat) (reset over : Bool) (G : Nat → Prop) (room : Int) (B : List Int) (e : Ending) (w' : World) : Prop :=
  ∃ (L : List Value) (b : Bool) (X' : SS), e = .returned (.tuple #[.agg L.toArray, .bool b]) ∧ L.length = 19 ∧ L.all (·.oneCell') = true ∧ Kp w0 w' q p X' va i lim reset over G ∧ (∀ b, G b → w'.heap[b]? = W.heap[b]?) ∧ X'.o.bs = B ∧
    (b = false ∨
    (b = true ∧ reset = true ∧ ∃ code, L = frL (m4 8 code X'.o.gn) .nil .nil ∧ code < 100 ∧ X'.o.gn ≤ 3600 ∧ ((oneS (m4 8 code X'.o.gn) [] []).length : Int) ≤ room) ∨
    (b = true ∧ reset = false ∧ ∃ (off n : Nat) (fin : Bool) (A : Option Addr) (c : Nat), L = frL (m8 8 off fin) ⟨A, n, c⟩ .nil ∧ n ≤ c ∧ c ≤ maxLen ∧ n ≤ 492 ∧ off + n ≤ B.length ∧ (n : Int) + 20 ≤ room ∧ (n = 0 ∨ off + n ≤ lim) ∧ (fin = true → over = true ∧ off + n = B.length) ∧
      Own w' W.heap.size 5 (.slice A n c) ((B.drop off).take n) ∧
      (∀ W1, Kp w0 W1 q p X' va i lim reset over G → Calls Try.prog 14 #[.pointer (some ⟨q, 0, none⟩), .agg L.toArray] W1 (KpPost w0 W1 q p va i lim reset over G (.tuple #[])) ∧
        Calls Try.prog 15 #[.pointer (some ⟨q, 0, none⟩), .agg L.toArray] W1 (KpPost w0 W1 q p va i lim reset over G (.tuple #[])))))
theorem kp_next (h : Kp w0 W q p X va i lim reset over G) (room : Int) (hr : room < 9223372036854775808) (more : Nat) (hm : more < 18446744073709551616) :
    Calls Try.prog 11 #[.pointer (some ⟨q, 0, none⟩), .int .i64 room, .int .u64 more] W (KnPost w0 W q p va i lim reset over G room X.o.bs) := by
  have hlen := h.len4
  have hok := h.sm.oz.ok
  have hgl := hok.gl
  refine (sm_next h.sm (by omega) room hr more hm).mono fun e w' ⟨L, b, X', v, bs, he, hG, hO, hS, hk, hs⟩ => ?_
  have hl := hG.len
  rcases hG with ⟨rfl, _, _, _, rfl⟩ | ⟨rfl, k, rfl, rfl⟩ | ⟨rfl, k, rfl, A, c, y1, y2, rfl, rfl, rfl⟩
  · exact ⟨L, false, X', he, hl.1, hl.2, h.to hS hk rfl rfl h.lim h.ov h.rs h.code h.gl, fun b hb => hk b (.inl hb), rfl, .inl rfl⟩
  · refine ⟨_, true, _, he, hl.1, hl.2, h.to hS hk rfl rfl h.lim h.ov h.rs h.code h.gl, fun b hb => hk b (.inl hb), rfl, .inr (.inl ⟨rfl, ?_, X.code, by rw [h.id], h.code, by show X.o.gn ≤ 3600; omega, ?_⟩)⟩
    · rw [h.rs, k.1]
      rfl
    · have hz := k.2.2
      unfold zsR sizeF at hz
      rw [h.id, right_m4 X.code X.o.gn h.code (by omega), if_pos rfl] at hz
      exact hz
  · obtain ⟨hst, hr20, hy⟩ := k
    have hrs : reset = false := by rw [h.rs]; simp; omega
    have hmo : moS room ≤ 492 := by unfold moS; omega
    have hlm : lmS X more ≤ X.lim := by unfold lmS; omega
    obtain ⟨k1, k2, k3, k4, k5⟩ := nextR_in hok (moS room) (lmS X more)
    have hnl := next_lim X.o (moS room) (lmS X more)
    have hngl := nextO_gl X.o (moS room) (lmS X more) X.lim h.gl hlm
    have hmr : ((moS room : Nat) : Int) + 20 ≤ room := by unfold moS; omega
    have hglX := h.gl
    have hX : (nextX X (moS room) (lmS X more)).o.bs = X.o.bs := rfl
    have hstS : ∀ f, stS X.st f ≤ 3 := fun f => by
      unfold stS
      cases f <;> simp <;> (try split) <;> omega
    have h0 : Kp w0 w' q p (nextX X (moS room) (lmS X more)) va i lim reset over G := h.to hS hk rfl rfl h.lim h.ov (by rw [hrs]; have := hstS (nextR X.o (moS room) (lmS X more)).fin; symm; simp; show stS X.st _ < 5; omega) h.code hngl
    have hov : over = X.o.ov := h.ov.symm
    generalize hrr : nextR X.o (moS room) (lmS X more) = r at *
    refine ⟨_, true, _, he, hl.1, hl.2, h0, fun b hb => hk b (.inl hb), rfl, .inr (.inr ⟨rfl, hrs, r.off, r.n, r.fin, A, c, by rw [h.id], y1, y2, by omega, k1, by omega, ?_, fun hf => ?_, hO, fun W1 h1 => ?_⟩)⟩
    · by_cases hn : r.n = 0
      · exact .inl hn
      · right
        have := hnl hn
        rw [← h.lim]
        omega
    · obtain ⟨j1, j2, _⟩ := k3 hf
      refine ⟨?_, j1⟩
      unfold endO at j2
      simp only [Bool.and_eq_true] at j2
      rw [hov]
      exact j2.1.1
    · have hX2 : (nextX X (moS room) (lmS X more)).o.bs.length ≤ 1099511627776 := by show X.o.bs.length ≤ _; omega
      have e1 : Value.agg (frL (m8 X.id r.off r.fin) ⟨A, r.n, c⟩ .nil).toArray = frV (m8 X.id r.off r.fin) ⟨A, r.n, c⟩ .nil := rfl
      rw [e1]
      have hst1 : (nextX X (moS room) (lmS X more)).st ≤ 3 := hstS _
      refine ⟨(sm_lost h1.sm hX2 (m8 X.id r.off r.fin) ⟨A, r.n, c⟩ .nil rfl rfl r.off rfl (by omega) (by show r.n < _; omega)).mono fun e w' hP => ⟨hP.1, ⟨_, h1.to hP.2.1 hP.2.2.1 rfl rfl h1.lim h1.ov h1.rs h1.code h1.gl⟩, fun b hb => hP.2.2.1 b (.inl hb)⟩,
        (sm_acked h1.sm hX2 (m8 X.id r.off r.fin) ⟨A, r.n, c⟩ .nil rfl rfl r.off rfl (by omega) (by show r.n < _; omega)).mono fun e w' hP => ⟨hP.1, ⟨_, h1.to hP.2.1 hP.2.2.1 rfl rfl h1.lim h1.ov ?_ h1.code h1.gl⟩, fun b hb => hP.2.2.1 b (.inl hb)⟩⟩
      rw [hrs]
      symm
      simp only [decide_eq_false_iff_not]
      show ¬ 5 ≤ (if _ then 4 else _)
      split <;> omega
end
end Go.Proofs.Ytohahkjikhpamaa
