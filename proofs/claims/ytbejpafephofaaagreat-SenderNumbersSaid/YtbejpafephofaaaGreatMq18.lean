/-
  Rows of frames in memory; frame.Size, frame.Encode.
-/
import Derived.Test.YtbejpafephofaaaGreatWrite
import Derived.Test.YtbejpafephofaaaGreatMq14
import Derived.Test.YtbejpafephofaaaGreatMq9
namespace Go.Proofs.YtbejpafephofaaaGreat
section
set_option linter.unusedVariables false
set_option linter.unusedSimpArgs false
open Go.RowKit
/-- A frame's value and what it reads as. -/
structure FR where
  m : FN
  d : Sl
  r : Sl
  ds : List Int
  rs : RS
/-- The slice value with address A and n elements reads as the frames L, in blocks that P allows. -/
def FrsP (w : World) (P : Nat → Prop) (A : Option Addr) (n : Nat) (L : List FR) : Prop :=
  L.length = n ∧ (0 < n → ∃ b off, A = some ⟨b, off, none⟩ ∧ b < w.heap.size ∧ P b ∧ ∀ (i : Nat) (x : FR), L[i]? = some x → w.rangeAt b (off + i * 19) (frL x.m x.d x.r)) ∧ ∀ x ∈ L, Fits w P x.m x.d x.r x.ds x.rs
theorem rangeAt_kept {S : Nat → Prop} {w w' : World} {b o : Nat} {cs : List Value} (h : w.rangeAt b o cs) (k : Kept S w w') (hb : b < w.heap.size) (hs : ¬ S b) : w'.rangeAt b o cs := fun j v hv => (k.cell (p := ⟨b, _, none⟩) hb hs).trans (h j v hv)
theorem FrsP.kept {S P : Nat → Prop} {w w' : World} {A : Option Addr} {n : Nat} {L : List FR} (h : FrsP w P A n L) (k : Kept S w w') (hs : ∀ b, P b → ¬ S b) : FrsP w' P A n L := by
  refine ⟨h.1, fun hn => ?_, fun x hx => (h.2.2 x hx).kept k hs⟩
  obtain ⟨b, off, e, hb, hp, hc⟩ := h.2.1 hn
  exact ⟨b, off, e, Nat.lt_of_lt_of_le hb k.size, hp, fun i x hx => rangeAt_kept (hc i x hx) k hb (hs b hp)⟩
theorem FrsP.mono {P P' : Nat → Prop} {w : World} {A : Option Addr} {n : Nat} {L : List FR} (h : FrsP w P A n L) (hp : ∀ b, b < w.heap.size → P b → P' b) : FrsP w P' A n L := by
  refine ⟨h.1, fun hn => ?_, fun x hx => (h.2.2 x hx).mono hp⟩
  obtain ⟨b, off, e, hb, hp', hc⟩ := h.2.1 hn
  exact ⟨b, off, e, hb, hp b hb hp', hc⟩
theorem FrsP.below {P : Nat → Prop} {w w' : World} {A : Option Addr} {n : Nat} {L : List FR} (h : FrsP w P A n L) (k : Below w.heap.size w w') : FrsP w' P A n L := h.kept (Kept.of_below k (fun _ => False)) (fun _ _ h => h)
theorem ack_bound (y : Int) (rs : RS) (h : rs.length ≤ 16) : (putL (ackV y rs)).length ≤ 288 := by
  have h1 := putL_len (ackV y rs)
  have h2 := ackV_len y rs
  omega
theorem body_bound (m : FN) (ds : List Int) (rs : RS) (hr : rs.length ≤ 16 ∨ m.k ≠ 2) (hd : ds.length ≤ 512 ∨ (m.k ≠ 6 ∧ m.k ≠ 8 ∧ m.k ≠ 28)) : (bodyS m ds rs).length ≤ 800 := by
  have t := textB_le ds
  have po := putS_le m.o
  have ps := putS_le m.s
  have pl := putS_le m.l
  have pq := putS_le m.q
  have pc := putS_le m.c
  have l3 := putL_len [m.s, m.c, m.f]
  have l2 := putL_len [m.s, m.c]
  have l2b := putL_len [m.s, m.l]
  have l2c := putL_len [m.q, m.l]
  have hc : (cidL m).length = 8 := rfl
  simp only [List.length_cons, List.length_nil] at l3 l2 l2b l2c
  unfold bodyS
  by_cases h2 : m.k = 2
  · rw [if_pos h2]
    have := ack_bound m.y rs (by omega)
    omega
  by_cases h4 : m.k = 4
  · rw [if_neg h2, if_pos h4]; omega
  by_cases h5 : m.k = 5
  · rw [if_neg h2, if_neg h4, if_pos h5]; omega
  by_cases h6 : m.k = 6
  · rw [if_neg h2, if_neg h4, if_neg h5, if_pos h6, List.length_append]; omega
  by_cases h8 : m.k = 8
  · rw [if_neg h2, if_neg h4, if_neg h5, if_neg h6, if_pos h8]
    split <;> simp only [List.length_append] <;> omega
  rw [if_neg h2, if_neg h4, if_neg h5, if_neg h6, if_neg h8]
  (repeat' split) <;> (try simp only [List.length_append, List.length_cons, List.length_nil]) <;> omega
theorem right_bound (m : FN) (ds : List Int) (rs : RS) (h : rightB m ds rs = true) : (rs.length ≤ 16 ∨ m.k ≠ 2) ∧ (ds.length ≤ 512 ∨ (m.k ≠ 6 ∧ m.k ≠ 8 ∧ m.k ≠ 28)) := by
  unfold rightB at h
  simp only [Bool.and_eq_true] at h
  obtain ⟨⟨⟨h1, h2⟩, h3⟩, h4⟩ := h
  refine ⟨?_, ?_⟩
  · by_cases hk : m.k = 2
    · left
      simp [hk] at h4
      exact (rr_all rs h4).1.2
    · exact .inr hk
  · by_cases hk : m.k = 6 ∨ m.k = 8 ∨ m.k = 28
    · left
      unfold askDs at h3
      rw [if_pos hk] at h3
      unfold drB at h3
      simp only [Bool.and_eq_true, decide_eq_true_eq] at h3
      have := h3.1
      split at this <;> omega
    · right; omega
theorem one_bound (m : FN) (ds : List Int) (rs : RS) (h : rightB m ds rs = true) : (oneS m ds rs).length ≤ 808 := by
  have h1 := right_bound m ds rs h
  have h2 := body_bound m ds rs h1.1 h1.2
  have h3 := putS_le (wkS m)
  unfold oneS
  rw [List.length_append]; omega
def sizeF (m : FN) (ds : List Int) (rs : RS) : Int := if rightB m ds rs = true then ((oneS m ds rs).length : Int) else 0
set_option maxRecDepth 100000 in
set_option maxHeartbeats 1000000 in
theorem fsize_any (P : Nat → Prop) (m : FN) (d r : Sl) (ds : List Int) (rs : RS) (w : World) (hf : Fits w P m d r ds rs) (hkk : m.k = 0 ∨ m.k = 4 ∨ m.k = 8) : Calls Tryz.prog 57 #[frV m d r] w (FrPost (.int .i64 (sizeF m ds rs)) w) := by
  have hB0 : Below w.heap.size w (w.alloc (.cells (frL m d r).toArray 51)) := (Below.refl _ _).alloc (Nat.le_refl _) _
  have hA0 : At (w.alloc (.cells (frL m d r).toArray 51)) w.heap.size 51 (frL m d r) := At.new w _ _
  have hrt := fun W (h : Fits W P m d r ds rs) => right_any P m d r ds rs W h hkk
  have hF0 := hf.below hB0
  have hwr := fun (base p : Nat) (T : TypeId) (v : Value) (W : World) a1 a2 a3 a4 a5 => write_any base p T v [] m d r ds rs W a1 a2 a3 a4 a5 hkk
  have hg : w.heap.size < (w.alloc (.cells (frL m d r).toArray 51)).heap.size := hA0.lt
  obtain ⟨L, hL⟩ : ∃ L, frL m d r = L := ⟨_, rfl⟩
  have hLl : L.length = 19 := by rw [← hL]; rfl
  have hfv : frV m d r = .agg L.toArray := by rw [← hL]; rfl
  rw [hL] at hA0 hB0 hF0 hg
  rw [hfv] at hrt hwr ⊢
  clear hL hfv
  have HLl := Lib.hid hLl
  have HRT := Lib.hid hrt
  have HWR := Lib.hid hwr
  clear hLl hrt hwr hkk
  obtain ⟨rb, hrb⟩ : ∃ x, rightB m ds rs = x := ⟨_, rfl⟩
  have HRB := Lib.hid hrb
  cases rb with
  | false =>
    have hz : sizeF m ds rs = 0 := by unfold sizeF; rw [hrb]; rfl
    have HZ := Lib.hid hz
    clear hrb hz
    go_enter Tryz.func57, Tryz.ntmps57
    go_wp2_with (first | ((with_reducible refine at_ld ?_); refine ld_fr_g _ _ (by rfl) (by rfl) hA0 HLl.out ?_) | fail)
    refine (HRT.out _ hF0).mono ?_
    rintro e w1 ⟨rfl, hb1⟩
    rw [HRB.out]
    go_wp2_with fail
    go_ret
    exact ⟨by rw [HZ.out]; rfl, hB0.trans (hb1.mono (by omega))⟩
  | true =>
    have hz : sizeF m ds rs = ([] ++ oneS m ds rs).length := by unfold sizeF; rw [hrb]; rfl
    have HZ := Lib.hid hz
    clear hrb hz
    go_enter Tryz.func57, Tryz.ntmps57
    go_wp2_with (first | ((with_reducible refine at_ld ?_); refine ld_fr_g _ _ (by rfl) (by rfl) hA0 HLl.out ?_) | fail)
    refine (HRT.out _ hF0).mono ?_
    rintro e w1 ⟨rfl, hb1⟩
    rw [HRB.out]
    have hA1 := hA0.below hb1 hg
    have hF1 := hF0.below hb1
    have hB1 := hB0.trans (hb1.mono (by omega))
    have hs1 := hb1.size
    clear hb1
    go_wp2_with fail
    refine (wnew_any w1).mono ?_
    rintro e w2 ⟨rfl, hW2, hs2, hb2⟩
    have hA2 := hA1.below hb2 hA1.lt
    have hF2 := (hF1.mono (P' := fun b => ¬ WS w1.heap.size (.slice none 0 0) b) (fun b hb _ hs => by rcases hs with hs | hs; omega; simp [Value.ownBlock] at hs)).below hb2
    have hB2 := hB1.trans (hb2.mono (by omega))
    clear hb2
    go_wp2_with (first | ((with_reducible refine at_ld ?_); refine ld_fr_g _ _ (by rfl) (by rfl) hA2 HLl.out ?_) | fail)
    refine (HWR.out w1.heap.size w1.heap.size _ _ _ hW2 (by simp) hF2 HRB.out (by omega)).mono ?_
    rintro e w3 ⟨v3, rfl, hW3, _, hk3⟩
    have hB3 := hk3.below hB2 (by omega) (fun j hj => by rcases hj with hj | hj; omega; simp [Value.ownBlock] at hj)
    go_wp2_with fail
    refine (wlen_any _ _ _ _ _ _ hW3).mono ?_
    rintro e w4 ⟨rfl, rfl⟩
    go_wp2_with fail
    go_ret
    exact ⟨by rw [HZ.out]; rfl, hB3⟩
section
variable {ops : Array Oper} {rest : List Oper} {a : Act} {w : World} {Q : Exit → Act → World → Prop} {dst : Option Tmp} {x y : Operand} {t : TypeId} {pos : String} {after : Array Edge} {g : Option (Nat × Bool)}
/-- A whole frame's load out of a row. -/
theorem ld_fr_o (b o : Nat) (l : List Value) (hg : Region.wanted ⟨dst, .load 51 x, t, pos, after, g⟩ (yielded ops a.tmps) = true) (hx : a.eval x = .pointer (some ⟨b, o, none⟩)) (hA : w.rangeAt b o l) (hl : l.length = 19)
    (h : wpList Tryz.prog ops Q rest (a.put dst (.agg l.toArray)) w) : wpList Tryz.prog ops Q (⟨dst, .load 51 x, t, pos, after, g⟩ :: rest) a w := by
  refine wpList_step fun K hK => ?_
  rw [if_pos hg]
  exact wp_load_mid _ _ rfl b o hx l _ hA Tryz.underlying51 rfl (by rw [hl]; exact fr_info) (hK _ _ h)
end
end
section
set_option linter.unusedVariables false
set_option linter.unusedSimpArgs false
open Go.RowKit
def zF : Value := frV (FN.zero 0) .nil .nil
def noV : Value := .tuple #[zF, .bool false]
/-- The frames that a sender tells. -/
def m8 (id off : Nat) (fin : Bool) : FN := { FN.zero 8 with s := id, o := off, fin := fin }
def m4 (id code gn : Nat) : FN := { FN.zero 4 with s := id, c := code, f := gn }
def lmS (X : SS) (more : Nat) : Nat := min X.lim (X.o.gn + min more 1099511627776)
def moS (room : Int) : Nat := (min room 512 - 20).toNat
def stS (st : Nat) (fin : Bool) : Nat := if fin then 3 else if st = 1 then 2 else st
def nextX (X : SS) (most limit : Nat) : SS := { X with st := stS X.st (nextR X.o most limit).fin, o := nextO X.o most limit }
/-- What Next tells where bytes go. -/
def NbPost (w0 W : World) (q p : Nat) (X : SS) (most limit : Nat) (F : Nat → Prop) (e : Ending) (W' : World) : Prop :=
  ∃ A c, e = .returned (.tuple #[frV (m8 X.id (nextR X.o most limit).off (nextR X.o most limit).fin) ⟨A, (nextR X.o most limit).n, c⟩ .nil, .bool true]) ∧ (nextR X.o most limit).n ≤ c ∧ c ≤ maxLen ∧
    Own W' W.heap.size 5 (.slice A (nextR X.o most limit).n c) ((X.o.bs.drop (nextR X.o most limit).off).take (nextR X.o most limit).n) ∧
    Sm w0 W' q p (nextX X most limit) F ∧ (∀ b, F b → W'.heap[b]? = W.heap[b]?) ∧ W.heap.size ≤ W'.heap.size
theorem fz_box (W : World) : ∃ W1 : World, W.alloc (.cells #[.int .i64 0, .int .u64 0, .int .u64 0, .slice none 0 0, .bool false, .int .u64 0, .int .u64 0, .int .u64 0, .int .u64 0, .int .u64 0, .slice none 0 0, .int .u8 0, .int .u8 0, .int .u8 0, .int .u8 0, .int .u8 0, .int .u8 0, .int .u8 0, .int .u8 0] 51) = W1 ∧
    At W1 W.heap.size 51 (frL (FN.zero 0) .nil .nil) ∧ Below W.heap.size W W1 := ⟨_, rfl, At.new W _ (frL (FN.zero 0) .nil .nil), (Below.refl _ _).alloc (Nat.le_refl _) _⟩
section
variable {w0 W W1 W' : World} {q p : Nat} {X X' : SS} {F : Nat → Prop}
/-- A block of one's own beside it. -/
theorem Sm.beside (h : Sm w0 W q p X F) (L : List Value) (T : TypeId) : Sm w0 (W.alloc (.cells L.toArray T)) q p X (fun b => b = W.heap.size ∨ F b) := by
  have hb : Below W.heap.size W (W.alloc (.cells L.toArray T)) := (Below.refl _ _).alloc (Nat.le_refl _) _
  have hq := h.at_.lt
  refine ⟨h.at_.below hb hq, h.oz.fresh hb (F' := fun b => b = q ∨ (b = W.heap.size ∨ F b)) ?_, h.qb, fun e => ?_, h.ok⟩
  · intro b hb
    rcases hb with e | e | e
    · exact .inl (.inl e)
    · exact .inr ⟨by omega, by rw [e]; simp⟩
    · exact .inl (.inr e)
  · rcases e with e | e
    · omega
    · exact h.nF e
theorem Sm.weak {F' : Nat → Prop} (h : Sm w0 W q p X F) (hF : ∀ b, F' b → F b) : Sm w0 W q p X F' := ⟨h.at_, h.oz.weak fun b hb => hb.imp id (hF b), h.qb, fun e => h.nF (hF q e), h.ok⟩

set_option maxRecDepth 100000 in
set_option maxHeartbeats 4000000 in
theorem sm_nb_small (h : Sm w0 W q p X F) (room : Int) (hr : room < 20) (more : Nat) : Calls Tryz.prog 44 #[.pointer (some ⟨q, 0, none⟩), .int .i64 room, .int .u64 more] W (SmPost w0 W q p X F noV) := by
  obtain ⟨W1, hW1, hA1, hB1⟩ := fz_box W
  have HX := Lib.hid (fun W' (k : Below W.heap.size W W') => h.same k noV)
  have HB1 := Lib.hid hB1
  have HA1 := Lib.hid hA1
  clear h hB1 hA1
  go_enter Tryz.func44, Tryz.ntmps44
  go_wp2_with (first | ((with_reducible refine at_st (x := .tmp 6) ?_); refine st_at _ _ (frL (FN.zero 0) .nil .nil) (by rfl) (by rfl) HA1.out (by rfl) (by rfl) (by rfl) ?_; intro w9 hA9 hk9; skip) | fail)
  refine bodyPost_ret (results_cell_tmp 6 7 51 (by rfl) _ 51 _ _ _ (by rfl) (by rfl) hA9 Tryz.underlying51 rfl fr_info) rfl ?_
  exact HX.out _ (hk9.below HB1.out HB1.out.size (fun j hj => by omega))
theorem Sm.other (h : Sm w0 W q p X F) {g : Nat} (hg : F g) (hb : w0.heap.size ≤ g) (k : Kept (· = g) W W') : Sm w0 W' q p X F :=
  ⟨h.at_.kept k fun e => h.nF (by rw [e]; exact hg), h.oz.other (.inr hg) hb k, h.qb, h.nF, h.ok⟩
theorem fz_sm (h : Sm w0 W q p X F) : ∃ W1 : World, W.alloc (.cells #[.int .i64 0, .int .u64 0, .int .u64 0, .slice none 0 0, .bool false, .int .u64 0, .int .u64 0, .int .u64 0, .int .u64 0, .int .u64 0, .slice none 0 0, .int .u8 0, .int .u8 0, .int .u8 0, .int .u8 0, .int .u8 0, .int .u8 0, .int .u8 0, .int .u8 0] 51) = W1 ∧
    At W1 W.heap.size 51 (frL (FN.zero 0) .nil .nil) ∧ Below W.heap.size W W1 ∧ Sm w0 W1 q p X (fun b => b = W.heap.size ∨ F b) :=
  ⟨_, rfl, At.new W _ (frL (FN.zero 0) .nil .nil), (Below.refl _ _).alloc (Nat.le_refl _) _, h.beside (frL (FN.zero 0) .nil .nil) _⟩
/-- What is left when the frame is stored in its block, g. -/
theorem nb_fin {W5 W6 W9 : World} {X5 X6 : SS} {v : Value} {bs : List Int} (h : Sm w0 W q p X F) (k1 : Below W.heap.size W W1) (hg : W.heap.size < W1.heap.size) (hk5 : ∀ b, (b = W.heap.size ∨ F b) → W5.heap[b]? = W1.heap[b]?) (hs5 : W1.heap.size ≤ W5.heap.size)
    (own5 : Own W5 W1.heap.size 5 v bs) (h6 : Sm w0 W6 q p X6 (fun b => b = W.heap.size ∨ F b)) (k6 : Kept (· = q) W5 W6) (k9 : Kept (· = W.heap.size) W6 W9) :
    Own W9 W.heap.size 5 v bs ∧ Sm w0 W9 q p X6 F ∧ (∀ b, F b → W9.heap[b]? = W.heap[b]?) ∧ W.heap.size ≤ W9.heap.size := by
  have hq := h.at_.lt
  have s6 := k6.size
  have s9 := k9.size
  refine ⟨((own5.kept k6 fun j hj e => ?_).kept k9 fun j hj e => ?_).base_ (by omega), (h6.other (.inl rfl) h.bl.size k9).weak fun b hb => .inr hb, fun b hb => ?_, by omega⟩
  · have := (own5.block_lt j hj).1
    omega
  · have := (own5.block_lt j hj).1
    omega
  · have hb' := h.Flt b hb
    rw [k9.block b (by omega) (by omega), k6.block b (by omega) (fun e => h.nF (by rw [← e]; exact hb)), hk5 b (.inr hb), k1.block b hb']

set_option maxRecDepth 100000 in
set_option maxHeartbeats 4000000 in
theorem sm_nb (h : Sm w0 W q p X F) (hL : X.o.bs.length ≤ 1099511627776) (room : Int) (hr : 20 ≤ room) (hr2 : room < 9223372036854775808) (more : Nat) (hm : more < 18446744073709551616) :
    Calls Tryz.prog 44 #[.pointer (some ⟨q, 0, none⟩), .int .i64 room, .int .u64 more] W fun e w' =>
      ((nextR X.o (moS room) (lmS X more)).yes = false → SmPost w0 W q p X F noV e w') ∧ ((nextR X.o (moS room) (lmS X more)).yes = true → NbPost w0 W q p X (moS room) (lmS X more) F e w') := by
  obtain ⟨W1, hW1, hA1, hB1, h1⟩ := fz_sm h
  obtain ⟨k1, k2, _, _, _⟩ := nextR_in h.oz.ok (moS room) (lmS X more)
  have hgl := h.oz.ok.gl
  have hlim := h.ok.lim
  have hnone := fun hn => nextO_none h.oz.ok (most := moS room) (limit := lmS X more) hn
  obtain ⟨mm, hmm⟩ : ∃ mm, mm = min more 1099511627776 := ⟨_, rfl⟩
  have M1 : (if (1099511627776 : Int) < (more : Int) then (1099511627776 : Int) else (more : Int)) = (mm : Int) := by rw [hmm]; split <;> omega
  obtain ⟨sm, hsm⟩ : ∃ sm, sm = X.o.gn + mm := ⟨_, rfl⟩
  have zsm : (X.o.gn : Int) + (mm : Int) = (sm : Int) := by omega
  have hsm8 : sm < 18446744073709551616 := by omega
  have wsm : IntKind.u64.wrap (sm : Int) = (sm : Int) := by rw [IntKind.wrap_u64]; omega
  obtain ⟨lm, hlm⟩ : ∃ lm, lm = lmS X more := ⟨_, rfl⟩
  have M2 : (if sm < X.lim then (sm : Int) else (X.lim : Int)) = (lm : Int) := by rw [hlm, hsm, hmm]; unfold lmS; split <;> omega
  obtain ⟨most, hmost⟩ : ∃ most, most = moS room := ⟨_, rfl⟩
  obtain ⟨rm, hrm⟩ : ∃ rm : Nat, (rm : Int) = min room 512 := ⟨(min room 512).toNat, by omega⟩
  have M3 : (if (512 : Int) < room then (512 : Int) else room) = (rm : Int) := by rw [hrm]; split <;> omega
  have zrm : (rm : Int) - 20 = (most : Int) := by rw [hmost]; unfold moS; omega
  have hmb : most ≤ 492 := by omega
  have wmo : IntKind.i64.wrap (most : Int) = (most : Int) := by rw [IntKind.wrap_i64]; omega
  have hl8 : lm < 18446744073709551616 := by rw [hlm]; unfold lmS; omega
  rw [← hlm, ← hmost] at k1 k2 hnone ⊢
  have HSE := Lib.hid (fun d => Calls.quiet_of_same (sm_sent (h1.drewN d)))
  have HLX := Lib.hid hL
  have HNX := Lib.hid (fun (W2 : World) (h2 : Sm w0 W2 q p X (fun b => b = W.heap.size ∨ F b)) => oz_next h2.oz hL (most : Int) (by omega) lm hl8)
  rw [show ((most : Nat) : Int).toNat = most by omega] at HNX
  have HFX := Lib.hid (fun (W1 W5 W6 W9 : World) (X6 : SS) (v : Value) (bs : List Int) a b c d e f g k => nb_fin (W1 := W1) (W5 := W5) (W6 := W6) (W9 := W9) (X5 := X) (X6 := X6) (v := v) (bs := bs) h a b c d e f g k)
  have H1 := Lib.hid h1
  have HB1 := Lib.hid hB1
  have HA1 := Lib.hid hA1
  have c1 := h1.c1
  unfold NbPost nextX
  obtain ⟨r, hR⟩ : ∃ r, nextR X.o most lm = r := ⟨_, rfl⟩
  obtain ⟨O', hO'⟩ : ∃ O', nextO X.o most lm = O' := ⟨_, rfl⟩
  unfold OzNext at HNX
  rw [hR] at k1 k2 hnone HNX ⊢
  rw [hO'] at hnone HNX ⊢
  obtain ⟨ro, rn, rf, ry⟩ := r
  simp only at k1 k2 hnone HNX ⊢
  have hrn : rn ≤ 492 := by omega
  have hro : ro < 18446744073709551616 := by omega
  have HK1 := Lib.hid k1
  have hlen : ((X.o.bs.drop ro).take rn).length = rn := by rw [List.length_take, List.length_drop]; omega
  obtain ⟨DD, hDD⟩ : ∃ DD, (X.o.bs.drop ro).take rn = DD := ⟨_, rfl⟩
  rw [hDD] at hlen HNX ⊢
  have HST := Lib.hid h.ok.st
  have HSMB := Lib.hid (fun (W2 W' : World) (h2 : Sm w0 W2 q p X (fun b => b = W.heap.size ∨ F b)) (z1 : Oz w0 W' p O' (fun b => b = q ∨ (b = W.heap.size ∨ F b))) (z2 : ∀ b, (b = q ∨ (b = W.heap.size ∨ F b)) → W'.heap[b]? = W2.heap[b]?) (z3 : W2.heap.size ≤ W'.heap.size) => (h2.buf (r := .tuple #[]) (e := .returned (.tuple #[])) ⟨rfl, z1, z2, z3⟩).2)
  have HNB : Hid (∀ W2, Sm w0 W2 q p X (fun b => b = W.heap.size ∨ F b) → Calls Tryz.prog 56 #[.pointer (some ⟨p, 0, none⟩), .int .i64 most, .int .u64 lm] W2 fun e w5 => ∃ (A5 : Option Addr) (c5 : Nat), e = .returned (.tuple #[.int .u64 ro, .slice A5 rn c5, .bool rf, .bool ry]) ∧ rn ≤ c5 ∧ c5 ≤ maxLen ∧ Own w5 W2.heap.size 5 (.slice A5 rn c5) DD ∧
      Sm w0 w5 q p { X with o := O' } (fun b => b = W.heap.size ∨ F b) ∧ (∀ b, (b = W.heap.size ∨ F b) → w5.heap[b]? = W2.heap[b]?) ∧ W2.heap.size ≤ w5.heap.size) := Lib.hid (fun W2 h2 => (HNX.out W2 h2).mono fun e w5 ⟨v, he, ho, hz, hg, hs⟩ => by
    obtain ⟨A, c, e1, y1, y2, _⟩ := ho.open_n rn hlen
    rw [e1] at he ho
    obtain ⟨z1, z2, z3⟩ := HSMB.out W2 w5 h2 hz hg hs
    exact ⟨A, c, he, y1, y2, ho, z1, z2, z3⟩)
  have HNO := Lib.hid hnone
  have HAT0 : Hid (∀ W2 w5 : World, At W2 W.heap.size 51 (frL (FN.zero 0) .nil .nil) → (∀ b, (b = W.heap.size ∨ F b) → w5.heap[b]? = W2.heap[b]?) → At w5 W.heap.size 51 (frL (FN.zero 0) .nil .nil)) := Lib.hid (fun W2 w5 ha hk => (hk _ (.inl rfl)).trans ha)
  have HTP := Lib.hid (fun (W5 : World) (h5 : Sm w0 W5 q p { X with o := O' } (fun b => b = W.heap.size ∨ F b)) (s : Nat) (hs : s = 2 ∨ s = 3) => h5.top (X' := { X with o := O', st := s }) ((Kept.refl _ W5).setAt 2 (.int .i64 s)) (h5.at_.set 2 (.int .i64 s)) rfl ⟨h5.ok.id, h5.ok.lim, h5.ok.code, hs.elim (fun e => .inr (.inl e)) (fun e => .inr (.inr (.inl e)))⟩)
  clear h h1 hA1 hB1 k1 k2 hL HNX HSMB hR hO' hlen hDD hmm hsm hlm hmost hrm hgl hlim hnone HLX hr2 hm
  have hrz : ¬ room < 20 := by omega
  clear hr

  cases ry with
  | false =>
    have hno := HNO.out rfl
    subst hno
    clear HNO
    go_enter Tryz.func44, Tryz.ntmps44
    go_wp2_with fail
    go_quiet ((go_at_call 27; (with_reducible exact HSE.out _)))
    have h2 := Lib.hid (And.intro (H1.out.drewN nq) (And.intro (below_drewN HB1.out nq) (And.intro (show W.heap.size < (W1.drewN nq).heap.size from HA1.out.lt) (HA1.out.drewN nq))))
    have c4 := h2.out.1.c4
    generalize W1.drewN nq = W2 at h2 c4 ⊢
    clear c1 H1 HB1 HA1 HSE hW1
    have HNE := Lib.hid (HNB.out W2 h2.out.1)
    have HAT := Lib.hid (fun w5 hk => HAT0.out W2 w5 h2.out.2.2.2 hk)
    clear HNB HAT0
    go_wp2_with (first | (go_at_call 56; (with_reducible refine HNE.out.mono ?_); rintro e w5 ⟨A5, c5, rfl, x1, x2, x3, hS5, hk5, hs5⟩; have H5 := Lib.hid (And.intro x1 (And.intro x2 (And.intro x3 (And.intro hS5 (And.intro hk5 hs5))))); have HA5 := Lib.hid (HAT.out w5 hk5); skip; clear x1 x2 x3 hS5 hk5 hs5) | ((with_reducible refine at_st (x := .tmp 6) ?_); refine st_at _ _ (frL (FN.zero 0) .nil .nil) (by rfl) (by rfl) HA5.out (by rfl) (by rfl) (by rfl) ?_; intro w9 hA9 hk9; skip) | fail)
    refine bodyPost_ret (results_cell_tmp 6 7 51 (by rfl) _ 51 _ _ _ (by rfl) (by rfl) hA9 Tryz.underlying51 rfl fr_info) rfl ?_
    obtain ⟨x1, x2, x3, x4, x5, x6⟩ := H5.out
    obtain ⟨y1, y2, y3, y4⟩ := HFX.out _ _ _ _ _ _ _ h2.out.2.1 h2.out.2.2.1 x5 x6 x3 x4 (Kept.refl _ _) hk9
    exact ⟨fun _ => ⟨rfl, y2, y3, y4⟩, fun k => (by cases k)⟩
  | true =>
    clear HNO
    cases rf with
    | true =>
      go_enter Tryz.func44, Tryz.ntmps44
      go_wp2_with fail
      go_quiet ((go_at_call 27; (with_reducible exact HSE.out _)))
      have h2 := Lib.hid (And.intro (H1.out.drewN nq) (And.intro (below_drewN HB1.out nq) (And.intro (show W.heap.size < (W1.drewN nq).heap.size from HA1.out.lt) (HA1.out.drewN nq))))
      have c4 := h2.out.1.c4
      generalize W1.drewN nq = W2 at h2 c4 ⊢
      clear c1 H1 HB1 HA1 HSE hW1
      have HNE := Lib.hid (HNB.out W2 h2.out.1)
      have HAT := Lib.hid (fun w5 hk => HAT0.out W2 w5 h2.out.2.2.2 hk)
      clear HNB HAT0
      have HT5 := Lib.hid (fun w5 h5 => HTP.out w5 h5 3 (.inr rfl))
      go_wp2_with (first | (go_at_call 56; (with_reducible refine HNE.out.mono ?_); rintro e w5 ⟨A5, c5, rfl, x1, x2, x3, hS5, hk5, hs5⟩; have H5 := Lib.hid (And.intro x1 (And.intro x2 (And.intro x3 (And.intro hS5 (And.intro hk5 hs5))))); have HA5 := Lib.hid (HAT.out w5 hk5); have f2 := hS5.at_.frozen 2; have x2' := hS5.c2; have hT5 := HT5.out w5 hS5; have x0 := hS5.c0; simp only at x0; have HT6 := Lib.hid hT5; have HA6 := Lib.hid (HA5.out.set_other (q := ⟨q, 2, none⟩) (fun e => hS5.nF (.inl e)) (.int .i64 3)); clear hT5; clear x1 x2 x3 hS5 hk5 hs5) | ((with_reducible refine at_st (x := .tmp 6) ?_); refine st_at _ _ (frL (m8 X.id ro true) ⟨A5, rn, c5⟩ .nil) (by rfl) (by rfl) HA6.out (by rfl) (by rfl) (by rfl) ?_; intro w9 hA9 hk9; skip) | fail)
      refine bodyPost_ret (results_cell_tmp 6 7 51 (by rfl) _ 51 _ _ _ (by rfl) (by rfl) hA9 Tryz.underlying51 rfl fr_info) rfl ?_
      obtain ⟨x1, x2, x3, x4, x5, x6⟩ := H5.out
      have z := HT6.out
      obtain ⟨y1, y2, y3, y4⟩ := HFX.out _ _ _ _ _ _ _ h2.out.2.1 h2.out.2.2.1 x5 x6 x3 z.1 ((Kept.refl _ _).setAt 2 _) hk9
      exact ⟨fun k => (by cases k), fun _ => ⟨A5, c5, rfl, x1, x2, y1, y2, y3, y4⟩⟩
    | false =>
      obtain ⟨s, hs⟩ : ∃ s, X.st = s := ⟨_, rfl⟩
      by_cases h1 : s = 1
      · subst h1
        have HS1 := Lib.hid hs
        go_enter Tryz.func44, Tryz.ntmps44
        go_wp2_with fail
        go_quiet ((go_at_call 27; (with_reducible exact HSE.out _)))
        have h2 := Lib.hid (And.intro (H1.out.drewN nq) (And.intro (below_drewN HB1.out nq) (And.intro (show W.heap.size < (W1.drewN nq).heap.size from HA1.out.lt) (HA1.out.drewN nq))))
        have c4 := h2.out.1.c4
        generalize W1.drewN nq = W2 at h2 c4 ⊢
        clear c1 H1 HB1 HA1 HSE hW1
        have HNE := Lib.hid (HNB.out W2 h2.out.1)
        have HAT := Lib.hid (fun w5 hk => HAT0.out W2 w5 h2.out.2.2.2 hk)
        clear HNB HAT0
        have HT5 := Lib.hid (fun w5 h5 => HTP.out w5 h5 2 (.inl rfl))
        go_wp2_with (first | (go_at_call 56; (with_reducible refine HNE.out.mono ?_); rintro e w5 ⟨A5, c5, rfl, x1, x2, x3, hS5, hk5, hs5⟩; have H5 := Lib.hid (And.intro x1 (And.intro x2 (And.intro x3 (And.intro hS5 (And.intro hk5 hs5))))); have HA5 := Lib.hid (HAT.out w5 hk5); have f2 := hS5.at_.frozen 2; have x2' := hS5.c2; simp only [HS1.out] at x2'; have hT5 := HT5.out w5 hS5; have x0 := hS5.c0; simp only at x0; have HT6 := Lib.hid hT5; have HA6 := Lib.hid (HA5.out.set_other (q := ⟨q, 2, none⟩) (fun e => hS5.nF (.inl e)) (.int .i64 2)); clear hT5; clear x1 x2 x3 hS5 hk5 hs5) | ((with_reducible refine at_st (x := .tmp 6) ?_); refine st_at _ _ (frL (m8 X.id ro false) ⟨A5, rn, c5⟩ .nil) (by rfl) (by rfl) HA6.out (by rfl) (by rfl) (by rfl) ?_; intro w9 hA9 hk9; skip) | fail)
        refine bodyPost_ret (results_cell_tmp 6 7 51 (by rfl) _ 51 _ _ _ (by rfl) (by rfl) hA9 Tryz.underlying51 rfl fr_info) rfl ?_
        obtain ⟨x1, x2, x3, x4, x5, x6⟩ := H5.out
        have z := HT6.out
        rw [show stS X.st false = 2 by rw [HS1.out]; rfl]
        obtain ⟨y1, y2, y3, y4⟩ := HFX.out _ _ _ _ _ _ _ h2.out.2.1 h2.out.2.2.1 x5 x6 x3 z.1 ((Kept.refl _ _).setAt 2 _) hk9
        exact ⟨fun k => (by cases k), fun _ => ⟨A5, c5, rfl, x1, x2, y1, y2, y3, y4⟩⟩
      · have hb1 : ((X.st : Int) == 1) = false := by simp; omega
        have HS1 := Lib.hid (show stS X.st false = X.st by unfold stS; rw [if_neg (by decide), if_neg (by omega)])
        clear h1 hs
        go_enter Tryz.func44, Tryz.ntmps44
        go_wp2_with fail
        go_quiet ((go_at_call 27; (with_reducible exact HSE.out _)))
        have h2 := Lib.hid (And.intro (H1.out.drewN nq) (And.intro (below_drewN HB1.out nq) (And.intro (show W.heap.size < (W1.drewN nq).heap.size from HA1.out.lt) (HA1.out.drewN nq))))
        have c4 := h2.out.1.c4
        generalize W1.drewN nq = W2 at h2 c4 ⊢
        clear c1 H1 HB1 HA1 HSE hW1
        have HNE := Lib.hid (HNB.out W2 h2.out.1)
        have HAT := Lib.hid (fun w5 hk => HAT0.out W2 w5 h2.out.2.2.2 hk)
        clear HNB HAT0
        go_wp2_with (first | (go_at_call 56; (with_reducible refine HNE.out.mono ?_); rintro e w5 ⟨A5, c5, rfl, x1, x2, x3, hS5, hk5, hs5⟩; have H5 := Lib.hid (And.intro x1 (And.intro x2 (And.intro x3 (And.intro hS5 (And.intro hk5 hs5))))); have HA5 := Lib.hid (HAT.out w5 hk5); have x2' := hS5.c2; have x0 := hS5.c0; simp only at x0 x2'; clear x1 x2 x3 hS5 hk5 hs5) | ((with_reducible refine at_st (x := .tmp 6) ?_); refine st_at _ _ (frL (m8 X.id ro false) ⟨A5, rn, c5⟩ .nil) (by rfl) (by rfl) HA5.out (by rfl) (by rfl) (by rfl) ?_; intro w9 hA9 hk9; skip) | fail)
        refine bodyPost_ret (results_cell_tmp 6 7 51 (by rfl) _ 51 _ _ _ (by rfl) (by rfl) hA9 Tryz.underlying51 rfl fr_info) rfl ?_
        obtain ⟨x1, x2, x3, x4, x5, x6⟩ := H5.out
        have z := x4
        have e6 : ({ X with o := O' } : SS) = { X with st := stS X.st false, o := O' } := by rw [HS1.out]
        rw [e6] at z
        obtain ⟨y1, y2, y3, y4⟩ := HFX.out _ _ _ _ _ _ _ h2.out.2.1 h2.out.2.2.1 x5 x6 x3 z (Kept.refl _ _) hk9
        exact ⟨fun k => (by cases k), fun _ => ⟨A5, c5, rfl, x1, x2, y1, y2, y3, y4⟩⟩
end
end
end Go.Proofs.YtbejpafephofaaaGreat
