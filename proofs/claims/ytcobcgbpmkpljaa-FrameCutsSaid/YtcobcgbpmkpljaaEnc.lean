/-
  Rows of frames in memory; frame.Size, frame.Encode.
-/
import Derived.Test.YtcobcgbpmkpljaaWrite
namespace Go.Proofs.Ytcobcgbpmkpljaa
set_option linter.unusedVariables false
set_option linter.unusedSimpArgs false
open Go.RowKit
/-- A frame's value and what it reads as. -/
structure FR where
  m : FN
  d : Sl
  r : Sl
  ds : List Int
  rs : RS
/-- The slice value with address A and n elements reads as the frames L, in blocks that P allows. -/
def FrsP (w : World) (P : Nat → Prop) (A : Option Addr) (n : Nat) (L : List FR) : Prop :=
  L.length = n ∧ (0 < n → ∃ b off, A = some ⟨b, off, none⟩ ∧ b < w.heap.size ∧ P b ∧ ∀ (i : Nat) (x : FR), L[i]? = some x → w.rangeAt b (off + i * 19) (frL x.m x.d x.r)) ∧ ∀ x ∈ L, Fits w P x.m x.d x.r x.ds x.rs
theorem rangeAt_kept {S : Nat → Prop} {w w' : World} {b o : Nat} {cs : List Value} (h : w.rangeAt b o cs) (k : Kept S w w') (hb : b < w.heap.size) (hs : ¬ S b) : w'.rangeAt b o cs := fun j v hv => (k.cell (p := ⟨b, _, none⟩) hb hs).trans (h j v hv)
theorem FrsP.kept {S P : Nat → Prop} {w w' : World} {A : Option Addr} {n : Nat} {L : List FR} (h : FrsP w P A n L) (k : Kept S w w') (hs : ∀ b, P b → ¬ S b) : FrsP w' P A n L := by
  refine ⟨h.1, fun hn => ?_, fun x hx => (h.2.2 x hx).kept k hs⟩
  obtain ⟨b, off, e, hb, hp, hc⟩ := h.2.1 hn
  exact ⟨b, off, e, Nat.lt_of_lt_of_le hb k.size, hp, fun i x hx => rangeAt_kept (hc i x hx) k hb (hs b hp)⟩
theorem FrsP.mono {P P' : Nat → Prop} {w : World} {A : Option Addr} {n : Nat} {L : List FR} (h : FrsP w P A n L) (hp : ∀ b, b < w.heap.size → P b → P' b) : FrsP w P' A n L := by
  refine ⟨h.1, fun hn => ?_, fun x hx => (h.2.2 x hx).mono hp⟩
  obtain ⟨b, off, e, hb, hp', hc⟩ := h.2.1 hn
  exact ⟨b, off, e, hb, hp b hb hp', hc⟩
theorem FrsP.below {P : Nat → Prop} {w w' : World} {A : Option Addr} {n : Nat} {L : List FR} (h : FrsP w P A n L) (k : Below w.heap.size w w') : FrsP w' P A n L := h.kept (Kept.of_below k (fun _ => False)) (fun _ _ h => h)
theorem ack_bound (y : Int) (rs : RS) (h : rs.length ≤ 16) : (putL (ackV y rs)).length ≤ 288 := by
  have h1 := putL_len (ackV y rs)
  have h2 := ackV_len y rs
  omega
theorem body_bound (m : FN) (ds : List Int) (rs : RS) (hr : rs.length ≤ 16 ∨ m.k ≠ 2) (hd : ds.length ≤ 512 ∨ (m.k ≠ 6 ∧ m.k ≠ 8 ∧ m.k ≠ 28)) : (bodyS m ds rs).length ≤ 800 := by
  have t := textB_le ds
  have po := putS_le m.o
  have ps := putS_le m.s
  have pl := putS_le m.l
  have pq := putS_le m.q
  have pc := putS_le m.c
  have l3 := putL_len [m.s, m.c, m.f]
  have l2 := putL_len [m.s, m.c]
  have l2b := putL_len [m.s, m.l]
  have l2c := putL_len [m.q, m.l]
  have hc : (cidL m).length = 8 := rfl
  simp only [List.length_cons, List.length_nil] at l3 l2 l2b l2c
  unfold bodyS
  by_cases h2 : m.k = 2
  · rw [if_pos h2]
    have := ack_bound m.y rs (by omega)
    omega
  by_cases h4 : m.k = 4
  · rw [if_neg h2, if_pos h4]; omega
  by_cases h5 : m.k = 5
  · rw [if_neg h2, if_neg h4, if_pos h5]; omega
  by_cases h6 : m.k = 6
  · rw [if_neg h2, if_neg h4, if_neg h5, if_pos h6, List.length_append]; omega
  by_cases h8 : m.k = 8
  · rw [if_neg h2, if_neg h4, if_neg h5, if_neg h6, if_pos h8]
    split <;> simp only [List.length_append] <;> omega
  rw [if_neg h2, if_neg h4, if_neg h5, if_neg h6, if_neg h8]
  (repeat' split) <;> (try simp only [List.length_append, List.length_cons, List.length_nil]) <;> omega
theorem right_bound (m : FN) (ds : List Int) (rs : RS) (h : rightB m ds rs = true) : (rs.length ≤ 16 ∨ m.k ≠ 2) ∧ (ds.length ≤ 512 ∨ (m.k ≠ 6 ∧ m.k ≠ 8 ∧ m.k ≠ 28)) := by
  unfold rightB at h
  simp only [Bool.and_eq_true] at h
  obtain ⟨⟨⟨h1, h2⟩, h3⟩, h4⟩ := h
  refine ⟨?_, ?_⟩
  · by_cases hk : m.k = 2
    · left
      simp [hk] at h4
      exact (rr_all rs h4).1.2
    · exact .inr hk
  · by_cases hk : m.k = 6 ∨ m.k = 8 ∨ m.k = 28
    · left
      unfold askDs at h3
      rw [if_pos hk] at h3
      unfold drB at h3
      simp only [Bool.and_eq_true, decide_eq_true_eq] at h3
      have := h3.1
      split at this <;> omega
    · right; omega
theorem one_bound (m : FN) (ds : List Int) (rs : RS) (h : rightB m ds rs = true) : (oneS m ds rs).length ≤ 808 := by
  have h1 := right_bound m ds rs h
  have h2 := body_bound m ds rs h1.1 h1.2
  have h3 := putS_le (wkS m)
  unfold oneS
  rw [List.length_append]; omega
def sizeF (m : FN) (ds : List Int) (rs : RS) : Int := if rightB m ds rs = true then ((oneS m ds rs).length : Int) else 0
set_option maxRecDepth 100000 in
set_option maxHeartbeats 1000000 in
theorem fsize_any (P : Nat → Prop) (m : FN) (d r : Sl) (ds : List Int) (rs : RS) (w : World) (hf : Fits w P m d r ds rs) : Calls Try.prog 22 #[frV m d r] w (FrPost (.int .i64 (sizeF m ds rs)) w) := by
  have hB0 : Below w.heap.size w (w.alloc (.cells (frL m d r).toArray 31)) := (Below.refl _ _).alloc (Nat.le_refl _) _
  have hA0 : At (w.alloc (.cells (frL m d r).toArray 31)) w.heap.size 31 (frL m d r) := At.new w _ _
  have hrt := fun W (h : Fits W P m d r ds rs) => right_any P m d r ds rs W h
  have hF0 := hf.below hB0
  have hwr := fun (base p : Nat) (T : TypeId) (v : Value) (W : World) a1 a2 a3 a4 a5 => write_any base p T v [] m d r ds rs W a1 a2 a3 a4 a5
  have hg : w.heap.size < (w.alloc (.cells (frL m d r).toArray 31)).heap.size := hA0.lt
  obtain ⟨L, hL⟩ : ∃ L, frL m d r = L := ⟨_, rfl⟩
  have hLl : L.length = 19 := by rw [← hL]; rfl
  have hfv : frV m d r = .agg L.toArray := by rw [← hL]; rfl
  rw [hL] at hA0 hB0 hF0 hg
  rw [hfv] at hrt hwr ⊢
  clear hL hfv
  have HLl := Lib.hid hLl
  have HRT := Lib.hid hrt
  have HWR := Lib.hid hwr
  clear hLl hrt hwr
  obtain ⟨rb, hrb⟩ : ∃ x, rightB m ds rs = x := ⟨_, rfl⟩
  have HRB := Lib.hid hrb
  cases rb with
  | false =>
    have hz : sizeF m ds rs = 0 := by unfold sizeF; rw [hrb]; rfl
    have HZ := Lib.hid hz
    clear hrb hz
    go_enter Try.func22, Try.ntmps22
    go_wp2_with (first | ((with_reducible refine at_ld ?_); refine ld_fr_g _ _ (by rfl) (by rfl) hA0 HLl.out ?_) | fail)
    refine (HRT.out _ hF0).mono ?_
    rintro e w1 ⟨rfl, hb1⟩
    rw [HRB.out]
    go_wp2_with fail
    go_ret
    exact ⟨by rw [HZ.out]; rfl, hB0.trans (hb1.mono (by omega))⟩
  | true =>
    have hz : sizeF m ds rs = ([] ++ oneS m ds rs).length := by unfold sizeF; rw [hrb]; rfl
    have HZ := Lib.hid hz
    clear hrb hz
    go_enter Try.func22, Try.ntmps22
    go_wp2_with (first | ((with_reducible refine at_ld ?_); refine ld_fr_g _ _ (by rfl) (by rfl) hA0 HLl.out ?_) | fail)
    refine (HRT.out _ hF0).mono ?_
    rintro e w1 ⟨rfl, hb1⟩
    rw [HRB.out]
    have hA1 := hA0.below hb1 hg
    have hF1 := hF0.below hb1
    have hB1 := hB0.trans (hb1.mono (by omega))
    have hs1 := hb1.size
    clear hb1
    go_wp2_with fail
    refine (new_any w1).mono ?_
    rintro e w2 ⟨rfl, hW2, hs2, hb2⟩
    have hA2 := hA1.below hb2 hA1.lt
    have hF2 := (hF1.mono (P' := fun b => ¬ WS w1.heap.size (.slice none 0 0) b) (fun b hb _ hs => by rcases hs with hs | hs; omega; simp [Value.ownBlock] at hs)).below hb2
    have hB2 := hB1.trans (hb2.mono (by omega))
    clear hb2
    go_wp2_with (first | ((with_reducible refine at_ld ?_); refine ld_fr_g _ _ (by rfl) (by rfl) hA2 HLl.out ?_) | fail)
    refine (HWR.out w1.heap.size w1.heap.size _ _ _ hW2 (by simp) hF2 HRB.out (by omega)).mono ?_
    rintro e w3 ⟨v3, rfl, hW3, _, hk3⟩
    have hB3 := hk3.below hB2 (by omega) (fun j hj => by rcases hj with hj | hj; omega; simp [Value.ownBlock] at hj)
    go_wp2_with fail
    refine (wlen_any _ _ _ _ _ _ hW3).mono ?_
    rintro e w4 ⟨rfl, rfl⟩
    go_wp2_with fail
    go_ret
    exact ⟨by rw [HZ.out]; rfl, hB3⟩
section
variable {ops : Array Oper} {rest : List Oper} {a : Act} {w : World} {Q : Exit → Act → World → Prop} {dst : Option Tmp} {x y : Operand} {t : TypeId} {pos : String} {after : Array Edge} {g : Option (Nat × Bool)}
/-- A whole frame's load out of a row. -/
theorem ld_fr_o (b o : Nat) (l : List Value) (hg : Region.wanted ⟨dst, .load 31 x, t, pos, after, g⟩ (yielded ops a.tmps) = true) (hx : a.eval x = .pointer (some ⟨b, o, none⟩)) (hA : w.rangeAt b o l) (hl : l.length = 19)
    (h : wpList Try.prog ops Q rest (a.put dst (.agg l.toArray)) w) : wpList Try.prog ops Q (⟨dst, .load 31 x, t, pos, after, g⟩ :: rest) a w := by
  refine wpList_step fun K hK => ?_
  rw [if_pos hg]
  exact wp_load_mid _ _ rfl b o hx l _ hA Try.underlying31 rfl (by rw [hl]; exact fr_info) (hK _ _ h)
end
def FR.right (x : FR) : Bool := rightB x.m x.ds x.rs
def encS (L : List FR) : List Int := L.flatMap fun x => oneS x.m x.ds x.rs
theorem encS_take (L : List FR) (k : Nat) (x : FR) (h : L[k]? = some x) : encS (L.take (k + 1)) = encS (L.take k) ++ oneS x.m x.ds x.rs := by
  obtain ⟨hk, e⟩ := List.getElem?_eq_some_iff.1 h
  unfold encS
  rw [List.take_succ_eq_append_getElem hk, List.flatMap_append, e]; simp
theorem encS_len : ∀ L : List FR, L.all FR.right = true → (encS L).length ≤ 808 * L.length
  | [], _ => by simp [encS]
  | x :: t, h => by
    simp only [List.all_cons, Bool.and_eq_true] at h
    have h1 := one_bound x.m x.ds x.rs h.1
    have h2 := encS_len t h.2
    unfold encS at *
    rw [List.flatMap_cons, List.length_append, List.length_cons]
    omega
def EncPost (L : List FR) (w : World) (e : Ending) (w' : World) : Prop :=
  (L.all FR.right = true → ∃ v, e = .returned (.tuple #[v, .int .i64 0]) ∧ Own w' w.heap.size 5 v (encS L)) ∧ (L.all FR.right = false → e = .returned (.tuple #[.slice none 0 0, .int .i64 1])) ∧ Below w.heap.size w w'
theorem all_take_succ (L : List FR) (k : Nat) (x : FR) (h : L[k]? = some x) : (L.take (k + 1)).all FR.right = ((L.take k).all FR.right && x.right) := by
  obtain ⟨hk, e⟩ := List.getElem?_eq_some_iff.1 h
  rw [List.take_succ_eq_append_getElem hk, List.all_append, e]; simp
theorem all_take_false (L : List FR) (k : Nat) (h : (L.take k).all FR.right = false) : L.all FR.right = false := by
  cases hb : L.all FR.right with
  | false => rfl
  | true =>
    rw [List.all_eq_true] at hb
    have : (L.take k).all FR.right = true := List.all_eq_true.2 fun x hx => hb x (List.mem_of_mem_take hx)
    rw [this] at h; cases h
/-- What Encode's loop keeps. -/
structure EncAt (w : World) (L : List FR) (k : Nat) (v' : Value) (wr : World) : Prop where
  wt : Wtr wr w.heap.size w.heap.size 101 v' (encS (L.take k))
  bl : Below w.heap.size w wr
  all : (L.take k).all FR.right = true
  sz : w.heap.size < wr.heap.size
set_option maxRecDepth 100000 in
set_option maxHeartbeats 2000000 in
theorem encode_any (P : Nat → Prop) (A : Option Addr) (n c : Nat) (L : List FR) (w : World) (hf : FrsP w P A n L) (hn : n ≤ 1000) (hnc : n ≤ c) : Calls Try.prog 19 #[.slice A n c] w (EncPost L w) := by
  have HF := Lib.hid (hf.mono (P' := fun b => b < w.heap.size) (fun b hb _ => hb))
  have HLN := Lib.hid hf.1
  clear hf
  go_enter Try.func19, Try.ntmps19
  go_wp2_with fail
  refine (new_any w).mono ?_
  rintro e w2 ⟨rfl, hW2, hs2, hb2⟩
  have HI : Hid (EncAt w L 0 (.slice none 0 0) w2) := Lib.hid ⟨by simpa [encS] using hW2, hb2, by simp, hs2⟩
  clear hW2 hs2 hb2
  go_wp2_with fail
  go_loopw [10] (fun i wr => ∃ (k : Nat) (v' : Value), k ≤ n ∧ i = .int .i64 k ∧ Hid (EncAt w L k v' wr)) (fun i _ => n - (intOf i).toNat)
  case atStart => exact ⟨0, _, by omega, rfl, HI⟩
  case round =>
    obtain ⟨k, v', hk, rfl, hat⟩ := hrel
    have hszr := hat.out.sz
    by_cases hlt : k < n
    · have hF := HF.out.below hat.out.bl
      obtain ⟨b, off, rfl, hb, hP, hc⟩ := hF.2.1 (by omega)
      obtain ⟨x, hx⟩ : ∃ x, L[k]? = some x := ⟨_, List.getElem?_eq_getElem (by rw [HLN.out]; exact hlt)⟩
      have hra := hc k x hx
      have hfx := hF.2.2 x (List.mem_of_getElem? hx)
      obtain ⟨fl, hfl⟩ : ∃ fl, frL x.m x.d x.r = fl := ⟨_, rfl⟩
      have hLl : fl.length = 19 := by rw [← hfl]; rfl
      have hone : fl.all (·.oneCell') = true := by rw [← hfl]; rfl
      have hfv : frV x.m x.d x.r = .agg fl.toArray := by rw [← hfl]; rfl
      have hb0 : Below wr.heap.size wr (wr.alloc (.cells fl.toArray 31)) := (Below.refl _ _).alloc (Nat.le_refl _) _
      have hf0 := hfx.below hb0
      have hA0 : At (wr.alloc (.cells fl.toArray 31)) wr.heap.size 31 fl := At.new wr _ _
      have hg0 := hA0.lt
      have hrt := right_any _ x.m x.d x.r x.ds x.rs _ hf0
      have hwr := fun (base p : Nat) (T : TypeId) (v : Value) (bs : List Int) (W : World) a1 a2 a3 a4 a5 => write_any base p T v bs x.m x.d x.r x.ds x.rs W a1 a2 a3 a4 a5
      rw [hfl] at hra
      rw [hfv] at hrt hwr
      clear hfl hfv
      have HRA := Lib.hid hra
      have HLl := Lib.hid hLl
      have HO := Lib.hid hone
      have HB0 := Lib.hid hb0
      have HA0 := Lib.hid hA0
      have HRT := Lib.hid hrt
      have HWR := Lib.hid hwr
      have HX := Lib.hid hx
      have HF0 := Lib.hid hf0
      clear hra hLl hone hb0 hA0 hrt hwr hx hc hfx hF hf0
      obtain ⟨rb, hrb⟩ : ∃ y, rightB x.m x.ds x.rs = y := ⟨_, rfl⟩
      have HRB := Lib.hid hrb
      rw [hrb] at HRT
      clear hrb
      cases rb with
      | false =>
        go_wp2_with (first | ((with_reducible refine at_ld (x := .tmp 12) ?_); refine ld_fr_o _ _ _ (by rfl) (by rfl) HRA.out HLl.out ?_) | ((with_reducible refine at_st ?_); refine st_top _ _ _ (by rfl) _ (by rfl) (by simp) (by rfl) (by rfl) HLl.out HO.out ?_) | ((with_reducible refine at_ld (x := .tmp 6) ?_); refine ld_fr_g _ _ (by rfl) (by rfl) HA0.out HLl.out ?_) | fail)
        refine HRT.out.mono ?_
        rintro e w3 ⟨rfl, hb3⟩
        go_wp2_with fail
        go_ret2
        refine ⟨fun h => ?_, fun _ => rfl, (hat.out.bl.trans (HB0.out.mono (by omega))).trans (hb3.mono (by omega))⟩
        have := all_take_false L (k + 1) (by rw [all_take_succ L k x HX.out]; unfold FR.right; rw [HRB.out]; simp)
        rw [this] at h; cases h
      | true =>
        go_wp2_with (first | ((with_reducible refine at_ld (x := .tmp 12) ?_); refine ld_fr_o _ _ _ (by rfl) (by rfl) HRA.out HLl.out ?_) | ((with_reducible refine at_st ?_); refine st_top _ _ _ (by rfl) _ (by rfl) (by simp) (by rfl) (by rfl) HLl.out HO.out ?_) | ((with_reducible refine at_ld (x := .tmp 6) ?_); refine ld_fr_g _ _ (by rfl) (by rfl) HA0.out HLl.out ?_) | fail)
        refine HRT.out.mono ?_
        rintro e w3 ⟨rfl, hb3⟩
        have hA3 := HA0.out.below hb3 hg0
        have hF3 := (HF0.out.below hb3).mono (P' := fun b => ¬ WS w.heap.size v' b) (fun b _ hb hs => by
          rcases hs with hs | hs
          · omega
          · have := (hat.out.wt.2.2.1.block_lt b hs).1; omega)
        have hB3 : Below w.heap.size w w3 := (hat.out.bl.trans (HB0.out.mono (by omega))).trans (hb3.mono (by omega))
        have hW3 : Wtr w3 w.heap.size w.heap.size 101 v' (encS (L.take k)) := hat.out.wt.kept (Kept.of_below (HB0.out.trans (hb3.mono (by omega))) (fun _ => False)) (fun h => h) (fun _ _ h => h)
        have hel := encS_len (L.take k) hat.out.all
        have htl := List.length_take_le k L
        have hal := hat.out.all
        have hs3 := hB3.size
        clear hb3 hat
        go_wp2_with (first | ((with_reducible refine at_ld (x := .tmp 6) ?_); refine ld_fr_g _ _ (by rfl) (by rfl) hA3 HLl.out ?_) | fail)
        refine (HWR.out w.heap.size w.heap.size _ _ _ _ hW3 (by omega) hF3 HRB.out hs3).mono ?_
        rintro e w4 ⟨v4, rfl, hW4, _, hk4⟩
        have hB4 := hk4.below hB3 hs3 (fun j hj => by
          rcases hj with hj | hj
          · omega
          · exact (hW3.2.2.1.block_lt j hj).1)
        have hI4 : Hid (EncAt w L (k + 1) v4 w4) := Lib.hid ⟨by rw [encS_take L k x HX.out]; exact hW4, hB4, by rw [all_take_succ L k x HX.out, hal]; unfold FR.right; rw [HRB.out]; rfl, by have := hW4.1.lt; omega⟩
        clear hk4 hW4 hB4 hF3 hA3 hW3 hal hB3
        go_wp2_with fail
        go_roundw
        case rel => exact ⟨k + 1, v4, by omega, by go_num, hI4⟩
        case measure => simp [intOf] <;> omega
    · obtain rfl : k = n := by omega
      have htk : L.take k = L := List.take_of_length_le (by rw [HLN.out]; exact Nat.le_refl _)
      have hW := hat.out.wt
      have hal := hat.out.all
      rw [htk] at hW hal
      have hel := encS_len L hal
      have HLN' := HLN.out
      have hlen : (encS L).length ≤ 100000000000000 := by omega
      have HW := Lib.hid hW
      have HAL := Lib.hid hal
      clear hel HLN' htk hW hal
      go_wp2_with fail
      refine (wdone_any _ _ _ _ _ _ HW.out hlen).mono ?_
      rintro e w5 ⟨v5, rfl, hown, hb5⟩
      obtain ⟨A5, n5, c5, rfl⟩ := hown.shape
      go_wp2_with fail
      go_ret2
      have hbs := hat.out.bl.size
      refine ⟨fun _ => ⟨_, rfl, hown.base_ hbs⟩, fun h => ?_, hat.out.bl.trans (hb5.mono hbs)⟩
      have h2 := HAL.out
      rw [h] at h2
      cases h2
end Go.Proofs.Ytcobcgbpmkpljaa
