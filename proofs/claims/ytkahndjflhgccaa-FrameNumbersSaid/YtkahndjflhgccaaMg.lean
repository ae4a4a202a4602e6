/-
  The eight bytes of a name, a Stream's data, as they are read (frame.readCID, readData).
-/
import Derived.Test.YtkahndjflhgccaaMf
import Derived.Test.YtkahndjflhgccaaMd
import Derived.Laws.CopyOwn
import Derived.BigRegion
import Derived.IntWalk
namespace Go.Proofs.Ytkahndjflhgccaa
section
set_option linter.unusedVariables false
set_option linter.unusedSimpArgs false
open Go.RowKit
set_option maxRecDepth 100000 in
set_option maxHeartbeats 1000000 in
theorem rcid_any (p : Nat) (T : TypeId) (P : Nat → Prop) (s : St) (w : World) (hr : Rdr w p T P s) (hP : ∀ b, P b → b ≠ p) (hl : s.1.length ≤ 140737488355000) :
    Calls Try.prog 73 #[.pointer (some ⟨p, 0, none⟩)] w (CidPost w p T P s) := by
  have hpl : p < w.heap.size := by obtain ⟨_, _, _, h, _⟩ := hr; exact h.lt
  obtain ⟨N, hN⟩ : ∃ N, (takeR s 8).length = N := ⟨_, rfl⟩
  have hN8 : N ≤ 8 := by rcases takeR8 s with h | h; omega; rw [h] at hN; simp at hN; omega
  have HN := Lib.hid hN
  have hsp : splice (List.replicate 8 (Value.int .u8 0)) 0 ((takeR s 8).map (Value.int .u8)) = (cid8 (takeR s 8)).map (Value.int .u8) := by
    rcases takeR8 s with h | h
    · rw [cid8_full _ h]
      match takeR s 8, h with
      | [a, b, c, d, e, f, g, i], _ => rfl
    · rw [h]; rfl
  have HSP := Lib.hid hsp
  have hc8 : ((cid8 (takeR s 8)).map (Value.int .u8)).length = 8 := rfl
  have hr' := hr.mono (P' := fun b => P b ∧ b < w.heap.size) (fun b hb hP => ⟨hP, hb⟩)
  have hP' : ∀ b, (P b ∧ b < w.heap.size) → b ≠ p := fun b hb => hP b hb.1
  have hrA : Rdr ((w.alloc (.cells (List.replicate 8 (Value.int .u8 0)).toArray 29)).alloc (.cells (List.replicate 8 (Value.int .u8 0)).toArray 29)) p T (fun b => P b ∧ b < w.heap.size) s :=
    hr'.kept (((Kept.refl (fun _ => False) w).alloc _).alloc _) (fun h => h) (fun _ _ h => h)
  have hbA : Below w.heap.size w ((w.alloc (.cells (List.replicate 8 (Value.int .u8 0)).toArray 29)).alloc (.cells (List.replicate 8 (Value.int .u8 0)).toArray 29)) := ((Below.refl _ _).alloc (Nat.le_refl _) _).alloc (by simp) _
  have hA2 : At ((w.alloc (.cells (List.replicate 8 (Value.int .u8 0)).toArray 29)).alloc (.cells (List.replicate 8 (Value.int .u8 0)).toArray 29)) w.heap.size 29 (List.replicate 8 (Value.int .u8 0)) := (At.new w _ _).alloc _
  have hA3 : At ((w.alloc (.cells (List.replicate 8 (Value.int .u8 0)).toArray 29)).alloc (.cells (List.replicate 8 (Value.int .u8 0)).toArray 29)) (w.heap.size + 1) 29 (List.replicate 8 (Value.int .u8 0)) := At.new_ _ _ _ (by simp)
  clear hN hsp
  go_enter Try.func73, Try.ntmps73
  go_wp2_with fail
  change (Code.region _ _ _).wp _ _ _ ((w.alloc (.cells (List.replicate 8 (Value.int .u8 0)).toArray 29)).alloc (.cells (List.replicate 8 (Value.int .u8 0)).toArray 29))
  obtain ⟨w1, hw1⟩ : ∃ w1, (w.alloc (.cells (List.replicate 8 (Value.int .u8 0)).toArray 29)).alloc (.cells (List.replicate 8 (Value.int .u8 0)).toArray 29) = w1 := ⟨_, rfl⟩
  rw [hw1] at hrA hbA hA2 hA3 ⊢
  clear hw1
  have hrA := hrA.drewN 1
  have hA2 := hA2.drew
  have hA3 := hA3.drew
  have hp3 := hA3.lt

  refine wp_region_held_drew (S := (fun _ => True)) (by kernel_rfl) (trivial) (fun hHeld => ?_)
  refine tkp 0 (some 4) (v := ?_) rfl (Or.inl ⟨by rfl, ?_⟩) (by assumption) ?_
  rotate_left
  · intro w hSw; (try dsimp only at hSw); go_simp; first | done | (with_reducible rfl)
  simp only [Act.put, List.setIfInBounds_toArray, List.set_cons_zero, List.set_cons_succ]
  refine tkp 1 (some 5) (v := ?_) rfl (Or.inl ⟨by rfl, ?_⟩) (by assumption) ?_
  rotate_left
  · intro w hSw; (try dsimp only at hSw); go_simp; first | done | (with_reducible rfl)
  simp only [Act.put, List.setIfInBounds_toArray, List.set_cons_zero, List.set_cons_succ]
  refine wpAnyH_ready (rs := [2]) (by kernel_rfl) (by simp) ?_
  refine AllReadyH.cons rfl (fun K hK => ?_) AllReadyH.nil
  go_simp
  go_wp2_with ((go_at_call 83; refine (raw_any p T (fun b => P b ∧ b < w.heap.size) s 8 _ hrA hP' hl).mono ?_; rintro e w2 ⟨v2, rfl, hown, hr2, hk2⟩; obtain ⟨A2, c2, rfl, g1, g2, g3⟩ := hown.open_n N HN.out))
  refine hK.out _ _ (trivial) (fun hHeld => ?_)
  clear hK K
  have B2 := hA2.kept hk2 (by omega)
  have B3 := hA3.kept hk2 (by omega)
  have hpa : N ≤ 8 := hN8
  refine wpAnyH_ready (rs := [3]) (by kernel_rfl) (by simp) ?_
  refine AllReadyH.cons rfl (fun K hK => ?_) AllReadyH.nil
  refine step_copy_splice rfl (.tmp 4) (.tmp 6) 26 26 rfl 5 Try.underlying26 (by kernel_rfl) (some ⟨w.heap.size + 1, 0, none⟩) A2 8 8 N c2 rfl rfl (w.heap.size + 1) 0 (List.replicate 8 (Value.int .u8 0)) 29 B3 ((takeR s 8).map (Value.int .u8))
    (by rw [List.length_map, HN.out]; exact (Nat.min_eq_left hN8).symm) (fun hp => ⟨rfl, g3.cells (by rw [List.length_map, HN.out] at hp; exact hp)⟩) (by rw [List.length_map, HN.out]; simp; omega) (oneCell_u8 _) (w.heap.size + 1) w2 (Below.refl _ _) (Nat.le_refl _) ?_
  intro w3 hb3 hbl3
  rw [HSP.out] at hb3
  refine hK.out _ _ trivial (fun hHeld => ?_)
  clear hK K
  refine wpAnyH_done (by kernel_rfl) ?_ _
  have C3 : At w3 (w.heap.size + 1) 29 ((cid8 (takeR s 8)).map (Value.int .u8)) := hb3.out
  have C2 := B2.below hbl3 (by omega)
  have hr3 := hr2.kept (Kept.of_belowB hbl3) (by omega) (fun b hb hs => by omega)
  have hk3 : Kept (· = p) w w3 := ((Kept.of_below hbA _).trans hk2.from_drewN).trans' (Kept.of_belowB hbl3) (fun j hj => .inr (by omega))
  go_wp2_with (first | (refine wpList_load_at (ty := 29) (w.heap.size + 1) _ ((cid8 (takeR s 8)).map (Value.int .u8)) _ (by rfl) C3 Try.underlying29 rfl cid_info ?_) | (refine wpList_store_at (ty := 29) w.heap.size _ (List.replicate 8 (Value.int .u8 0)) ((cid8 (takeR s 8)).map (Value.int .u8)) (by rfl) (by rfl) C2 rfl cid_info (by rfl) ?_; intro w4 D4 hk4) | fail)
  refine bodyPost_ret (results_cell 2 29 (by rfl) _ 29 _ _ (by rfl) D4 Try.underlying29 rfl cid_info) rfl ?_
  exact ⟨rfl, (hr3.kept hk4 (by omega) (fun b hb hs => by omega)).mono (fun b _ hb => hb.1), hk3.trans' hk4 (fun j hj => .inr (by omega))⟩
end
section
set_option linter.unusedVariables false
set_option linter.unusedSimpArgs false
open Go.RowKit
def dataR (s : St) (b : Bool) : List Int := if b = true then textR s else takeR s s.1.length
def dataN (s : St) (b : Bool) : St := if b = true then textN s else takeN s s.1.length
set_option maxRecDepth 100000 in
theorem rdata_any (p : Nat) (T : TypeId) (P : Nat → Prop) (s : St) (b : Bool) (w : World) (hr : Rdr w p T P s) (hP : ∀ b, P b → b ≠ p) (hl : s.1.length ≤ 100000000000000) :
    Calls Try.prog 71 #[.pointer (some ⟨p, 0, none⟩), .bool b] w (RawPost w p T P (dataR s b) (dataN s b)) := by
  cases b with
  | true =>
    have R1 := Lib.hid (show dataR s true = textR s from rfl)
    have R2 := Lib.hid (show dataN s true = textN s from rfl)
    go_enter Try.func71, Try.ntmps71
    go_wp2_with fail
    refine (text_any p T P s w hr hP (by omega)).mono ?_
    rintro e w1 ⟨v, rfl, h1, h2, h3⟩
    obtain ⟨A, n, c, rfl⟩ := h1.shape
    go_wp2_with fail
    go_ret
    exact ⟨_, rfl, by rw [R1.out]; exact h1, by rw [R2.out]; exact h2, h3⟩
  | false =>
    have R1 := Lib.hid (show dataR s false = takeR s s.1.length from rfl)
    have R2 := Lib.hid (show dataN s false = takeN s s.1.length from rfl)
    go_enter Try.func71, Try.ntmps71
    go_wp2_with fail
    refine (left_any p T P s w hr).mono ?_
    rintro e w' ⟨rfl, rfl⟩
    go_wp2_with fail
    refine (raw_any p T P s _ w hr hP (by omega)).mono ?_
    rintro e w1 ⟨v, rfl, h1, h2, h3⟩
    obtain ⟨A, n, c, rfl⟩ := h1.shape
    go_wp2_with fail
    go_ret
    exact ⟨_, rfl, by rw [R1.out]; exact h1, by rw [R2.out]; exact h2, h3⟩
/-- The cells of ranges. -/
def rsC (rs : RS) : List Value := rs.flatMap fun r => [.int .u64 r.1, .int .u64 r.2]
theorem rsC_len : ∀ rs : RS, (rsC rs).length = rs.length * 2
  | [] => rfl
  | r :: t => by
    have := rsC_len t
    unfold rsC at *
    rw [List.flatMap_cons, List.length_append, this, List.length_cons]
    simp; omega
theorem rsC_get : ∀ (rs : RS) (i : Nat) (r : Int × Int), rs[i]? = some r → (rsC rs)[i * 2]? = some (.int .u64 r.1) ∧ (rsC rs)[i * 2 + 1]? = some (.int .u64 r.2)
  | [], i, r, h => by simp at h
  | x :: t, 0, r, h => by
    simp at h
    subst h
    exact ⟨rfl, rfl⟩
  | x :: t, i + 1, r, h => by
    have := rsC_get t i r (by simpa using h)
    unfold rsC at *
    rw [List.flatMap_cons]
    constructor
    · rw [show (i + 1) * 2 = [Value.int .u64 x.1, Value.int .u64 x.2].length + i * 2 by simp; omega, List.getElem?_append_right (by omega)]
      simpa using this.1
    · rw [show (i + 1) * 2 + 1 = [Value.int .u64 x.1, Value.int .u64 x.2].length + (i * 2 + 1) by simp; omega, List.getElem?_append_right (by omega)]
      simpa using this.2
theorem rsC_app (a b : RS) : rsC (a ++ b) = rsC a ++ rsC b := by unfold rsC; exact List.flatMap_append
theorem rsC_one (rs : RS) : ∀ u ∈ rsC rs, u.oneCell' = true := fun u hu => by
  unfold rsC at hu
  rw [List.mem_flatMap] at hu
  obtain ⟨r, _, h⟩ := hu
  simp at h
  rcases h with rfl | rfl <;> rfl
/-- Each bound is a number of 64 bits. -/
def Wd (rs : RS) : Prop := ∀ r ∈ rs, 0 ≤ r.1 ∧ r.1 < 18446744073709551616 ∧ 0 ≤ r.2 ∧ r.2 < 18446744073709551616
/-- The value v is a slice that the call made itself (no block below base), of the ranges rs. -/
def OwnR (w : World) (base : Nat) (v : Value) (rs : RS) : Prop := w.ownsRow base 60 2 v rs.length (rsC rs) ∧ Wd rs
theorem OwnR.open_ {w : World} {base : Nat} {v : Value} {rs : RS} (h : OwnR w base v rs) (n : Nat) (hn : rs.length = n) :
    ∃ A c, v = .slice A n c ∧ InR w (fun b => v.ownBlock = some b) ⟨A, n, c⟩ rs := by
  subst hn
  rcases h.1.2 with ⟨rfl, h0⟩ | ⟨g, cap, cur, rfl, hb, hg, h1, h2, h3, h4⟩
  · obtain rfl : rs = [] := List.eq_nil_of_length_eq_zero h0
    exact ⟨none, 0, rfl, ⟨RgP.none_ _ _ _, Nat.le_refl _, by unfold maxLen; exact Nat.zero_le _, fun _ => rfl⟩⟩
  · have hlt : g < w.heap.size := by
      rcases Nat.lt_or_ge g w.heap.size with hlt | hge
      · exact hlt
      · rw [Array.getElem?_eq_none hge] at hg; cases hg
    refine ⟨_, cap, rfl, ⟨⟨rfl, h.2, fun hp => ⟨g, 0, rfl, hlt, rfl, fun i r hr => ?_⟩⟩, h1, h2, fun e => by cases e⟩⟩
    have hi := (List.getElem?_eq_some_iff.1 hr).1
    have hq := rsC_get rs i r hr
    rw [← h4, List.getElem?_take_of_lt (by omega), List.getElem?_take_of_lt (by omega)] at hq
    rw [cell_of_row w g _ cur _ (0, 0) hg, cell_of_row w g _ cur _ (0, 0) hg, Nat.zero_add]
    simpa using hq
theorem OwnR.keep {w w' : World} {base : Nat} {v : Value} {rs : RS} (h : OwnR w base v rs) (hk : ∀ k, v.ownBlock = some k → w'.heap[k]? = w.heap[k]?) : OwnR w' base v rs := by
  refine ⟨⟨h.1.1, ?_⟩, h.2⟩
  rcases h.1.2 with h0 | ⟨g, cap, cur, rfl, h2, h3, h4⟩
  · exact .inl h0
  · exact .inr ⟨g, cap, cur, rfl, h2, (hk g rfl).trans h3, h4⟩
theorem OwnR.block_lt {w : World} {base : Nat} {v : Value} {rs : RS} (h : OwnR w base v rs) : ∀ k, v.ownBlock = some k → base ≤ k ∧ k < w.heap.size := by
  intro k hk
  rcases h.1.2 with ⟨rfl, _⟩ | ⟨g, cap, cur, rfl, h2, h3, _⟩
  · simp [Value.ownBlock] at hk
  · simp [Value.ownBlock] at hk
    subst hk
    refine ⟨h2, ?_⟩
    rcases Nat.lt_or_ge g w.heap.size with hlt | hge
    · exact hlt
    · rw [Array.getElem?_eq_none hge] at h3; cases h3
theorem OwnR.kept {S : Nat → Prop} {w w' : World} {base : Nat} {v : Value} {rs : RS} (h : OwnR w base v rs) (k : Kept S w w') (hs : ∀ j, v.ownBlock = some j → ¬ S j) : OwnR w' base v rs := h.keep fun j hj => k.block j (h.block_lt j hj).2 (hs j hj)
theorem OwnR.shape {w : World} {base : Nat} {v : Value} {rs : RS} (h : OwnR w base v rs) : ∃ A n c, v = .slice A n c := by
  obtain ⟨A, c, h, _⟩ := h.open_ _ rfl
  exact ⟨A, _, c, h⟩
theorem OwnR.base_ {w : World} {base base' : Nat} {v : Value} {rs : RS} (h : OwnR w base v rs) (hb : base' ≤ base) : OwnR w base' v rs := by
  refine ⟨⟨h.1.1, ?_⟩, h.2⟩
  rcases h.1.2 with h0 | ⟨g, cap, cur, h1, h2, h3⟩
  · exact .inl h0
  · exact .inr ⟨g, cap, cur, h1, by omega, h3⟩
/-- A literal of one range. -/
theorem OwnR.one (w : World) (base g : Nat) (a b : Int) (hg : g = w.heap.size) (hb : base ≤ g) (hw : Wd [(a, b)]) : OwnR (w.alloc (.cells #[.int .u64 a, .int .u64 b] 60)) base (.slice (some ⟨g, 0, none⟩) 1 1) [(a, b)] := by
  subst hg
  exact ⟨⟨rfl, .inr ⟨_, 1, _, rfl, hb, heap_alloc_new w _, Nat.le_refl _, by unfold maxLen; omega, rfl, rfl⟩⟩, hw⟩
theorem rg_info : (Try.prog.info? 60).map (fun i => (i.zero, i.size, i.bytes)) = some (some (.agg #[.int .u64 0, .int .u64 0]), 2, 16) := by kernel_rfl
/-- append(v, x) of one thing of more than one cell, which lies in a block of its own. -/
theorem wpList_append_1 {P : Program} {w : World} {ops : Array Oper} {rest : List Oper} {o : Oper} {a : Act} {Q : Exit → Act → World → Prop} (hgd : o.guard = none) (s x : Operand) (t : TypeId)
    (ho : o.op = .call { callee := .builtin .append, args := #[s, x], argTypes := #[t, t] })
    (base : Nat) (e : TypeId) (i : TypeInfo) (z : Value) (size bytes : Nat) (ht : P.underlying t = some (.slice e)) (hi : P.info? e = some i) (hz : i.zero = some z) (hsize : i.size = size) (hby : i.bytes = bytes) (hzs : z.cells.size = size) (hsz : 0 < size)
    (v : Value) (n : Nat) (xs : List Value) (hs : a.eval s = v) (hown : w.ownsRow base e size v n xs) (g c : Nat) (news : List Value) (T : TypeId) (hx : a.eval x = .slice (some ⟨g, 0, none⟩) 1 c) (hl : news.length = size) (hcell : At w g T news) (h1 : ∀ u ∈ news, u.oneCell' = true)
    (h63 : n + 1 ≤ maxLen) (hbytes : (n + 1) * bytes ≤ 140737488355328) (hbase : base ≤ w.heap.size)
    (h : ∀ v' w', w'.ownsRow base e size v' (n + 1) (xs ++ news) → w.grownBy w' v.ownBlock → (v'.ownBlock = v.ownBlock ∨ v'.ownBlock = some w.heap.size) → wpList P ops Q rest (a.put o.dst v') w') : wpList P ops Q (o :: rest) a w := by
  refine wpList_plain hgd fun K hK => ?_
  obtain ⟨v', w', k1, k2, k3, _, k5⟩ := run_append_own_at (P := P) (w := w) base t o.type e i z size bytes ht hi hz hsize hby hzs hsz v n xs hown ⟨g, 0, none⟩ 1 c news (by omega) (fun j u hu => by rw [addr_add, Nat.zero_add, hcell.cell, hu]) h1 h63 hbytes hbase
  unfold Oper.wp
  simp [execOp, ho, resolve, invoke, builtin, hs, hx, k1, Result.andThen]
  exact hK _ _ (h v' w' k2 k3 k5)
theorem wpList_append_r {w : World} {ops : Array Oper} {rest : List Oper} {o : Oper} {a : Act} {Q : Exit → Act → World → Prop} (hgd : o.guard = none) (s x : Operand)
    (ho : o.op = .call { callee := .builtin .append, args := #[s, x], argTypes := #[27, 27] }) (base : Nat) (v : Value) (rs : RS) (hs : a.eval s = v) (hown : OwnR w base v rs) (g c : Nat) (lo hi : Int)
    (hx : a.eval x = .slice (some ⟨g, 0, none⟩) 1 c) (hcell : At w g 60 [.int .u64 lo, .int .u64 hi]) (hwd : Wd [(lo, hi)]) (hl : rs.length ≤ 1000) (hbase : base ≤ w.heap.size)
    (h : ∀ v' w', OwnR w' base v' (rs ++ [(lo, hi)]) → w.grownBy w' v.ownBlock → (v'.ownBlock = v.ownBlock ∨ v'.ownBlock = some w.heap.size) → wpList Try.prog ops Q rest (a.put o.dst v') w') : wpList Try.prog ops Q (o :: rest) a w := by
  have hI := rg_info
  cases hq : Try.prog.info? 60 with
  | none => rw [hq] at hI; cases hI
  | some i =>
    rw [hq] at hI
    simp only [Option.map_some, Option.some.injEq, Prod.mk.injEq] at hI
    refine wpList_append_1 hgd s x _ ho base 60 i _ 2 16 Try.underlying27 hq hI.1 hI.2.1 hI.2.2 rfl (by omega) v rs.length (rsC rs) hs hown.1 g c [.int .u64 lo, .int .u64 hi] _ hx rfl hcell (fun u hu => by simp at hu; rcases hu with rfl | rfl <;> rfl) (by unfold maxLen; omega) (by omega) hbase (fun v' w' k1 k2 k3 => h v' w' ⟨?_, ?_⟩ k2 k3)
    · rw [rsC_app, List.length_append]; exact k1
    · intro r hr
      rcases List.mem_append.1 hr with hr | hr
      · exact hown.2 r hr
      · exact hwd r hr
/-- Behind t exchanges. -/
def revAt (rs : RS) (t i : Nat) : Option (Int × Int) := if i < t ∨ rs.length ≤ i + t then rs[rs.length - 1 - i]? else rs[i]?
theorem revAt_0 (rs : RS) (i : Nat) (h : i < rs.length) : revAt rs 0 i = rs[i]? := by unfold revAt; rw [if_neg (by omega)]
theorem revAt_end (rs : RS) (t : Nat) (h : rs.length ≤ 2 * t + 1) (i : Nat) (hi : i < rs.length) : revAt rs t i = rs.reverse[i]? := by
  rw [List.getElem?_reverse hi]
  unfold revAt
  split
  · rfl
  · rw [show rs.length - 1 - i = i by omega]
/-- What Reverse's loop keeps: the row's block, its cells. -/
structure RevAt (w : World) (g : Nat) (rs : RS) (t : Nat) (wr : World) : Prop where
  kp : Kept (· = g) w wr
  ex : ∃ C : List Value, At wr g 60 C
  ce : ∀ (i : Nat) (r : Int × Int), i < rs.length → revAt rs t i = some r → wr.cell? ⟨g, i * 2, none⟩ = some (.int .u64 r.1) ∧ wr.cell? ⟨g, i * 2 + 1, none⟩ = some (.int .u64 r.2)
theorem revAt_get (rs : RS) (t i : Nat) (hi : i < rs.length) : ∃ r, revAt rs t i = some r := by
  unfold revAt
  split
  · exact ⟨_, List.getElem?_eq_getElem (by omega)⟩
  · exact ⟨_, List.getElem?_eq_getElem hi⟩
theorem rev_step {w wr : World} {g : Nat} {rs : RS} {t u : Nat} {a b : Int × Int} (h : RevAt w g rs t wr) (htu : t < u) (hn : t + u + 1 = rs.length) (ha : revAt rs t t = some a) (hb : revAt rs t u = some b) :
    RevAt w g rs (t + 1) ((((wr.setCell ⟨g, t * 2, none⟩ (.int .u64 b.1)).setCell ⟨g, t * 2 + 1, none⟩ (.int .u64 b.2)).setCell ⟨g, u * 2, none⟩ (.int .u64 a.1)).setCell ⟨g, u * 2 + 1, none⟩ (.int .u64 a.2)) := by
  obtain ⟨C, hC⟩ := h.ex
  have hlen : ∀ i, i < rs.length → i * 2 + 1 < C.length := fun i hi => by
    obtain ⟨r, hr⟩ := revAt_get rs t i hi
    have := (h.ce i r hi hr).2
    rw [hC.cell] at this
    exact (List.getElem?_eq_some_iff.1 this).1
  have hD := (((hC.set (t * 2) (.int .u64 b.1)).set (t * 2 + 1) (.int .u64 b.2)).set (u * 2) (.int .u64 a.1)).set (u * 2 + 1) (.int .u64 a.2)
  have ha2 : rs[t]? = some a := by unfold revAt at ha; rw [if_neg (by omega)] at ha; exact ha
  have hb2 : rs[u]? = some b := by unfold revAt at hb; rw [if_neg (by omega)] at hb; exact hb
  refine ⟨(((h.kp.setAt _ _).setAt _ _).setAt _ _).setAt _ _, ⟨_, hD⟩, fun i r hi hr => ?_⟩
  have l1 := hlen i hi
  have lt := hlen t (by omega)
  have lu := hlen u (by omega)
  rw [hD.cell, hD.cell]
  simp only [List.getElem?_set, List.length_set]
  by_cases hit : i = t
  · subst hit
    have : r = b := by
      unfold revAt at hr
      rw [if_pos (by omega), show rs.length - 1 - i = u by omega, hb2] at hr
      injection hr with hr; exact hr.symm
    subst this
    refine ⟨?_, ?_⟩
    · rw [if_neg (by omega), if_neg (by omega), if_neg (by omega), if_pos rfl, if_pos (by omega)]
    · rw [if_neg (by omega), if_neg (by omega), if_pos rfl, if_pos (by omega)]
  · by_cases hiu : i = u
    · subst hiu
      have : r = a := by
        unfold revAt at hr
        rw [if_pos (by omega), show rs.length - 1 - i = t by omega, ha2] at hr
        injection hr with hr; exact hr.symm
      subst this
      refine ⟨?_, ?_⟩
      · rw [if_neg (by omega), if_pos rfl, if_pos (by omega)]
      · rw [if_pos rfl, if_pos (by omega)]
    · have hr' : revAt rs t i = some r := by
        unfold revAt at hr ⊢
        by_cases hc : i < t ∨ rs.length ≤ i + t
        · rw [if_pos hc]; rw [if_pos (by omega)] at hr; exact hr
        · rw [if_neg hc]; rw [if_neg (by omega)] at hr; exact hr
      have h2 := h.ce i r hi hr'
      rw [hC.cell, hC.cell] at h2
      refine ⟨?_, ?_⟩
      · rw [if_neg (by omega), if_neg (by omega), if_neg (by omega), if_neg (by omega)]; exact h2.1
      · rw [if_neg (by omega), if_neg (by omega), if_neg (by omega), if_neg (by omega)]; exact h2.2
theorem RevAt.drew {w wr : World} {g : Nat} {rs : RS} {t : Nat} (h : RevAt w g rs t wr) : RevAt w g rs t wr.drew := ⟨h.kp.drew, h.ex.imp fun _ h => h.drew, h.ce⟩
set_option maxRecDepth 100000 in
set_option maxHeartbeats 2000000 in
theorem rev_any (g n c : Nat) (rs : RS) (w : World) (hn : rs.length = n) (h1 : 1 ≤ n) (h16 : n ≤ 16) (hnc : n ≤ c) (hc : c ≤ maxLen) (h0 : RevAt w g rs 0 w) :
    Calls Try.prog 82 #[.slice (some ⟨g, 0, none⟩) n c] w fun e w' => e = .returned (.tuple #[]) ∧ ∃ t, n ≤ 2 * t + 1 ∧ RevAt w g rs t w' := by
  unfold maxLen at hc
  have HN := Lib.hid hn
  have HI := Lib.hid h0
  clear hn h0
  go_enter Try.func82, Try.ntmps82
  go_wp2_with fail
  go_loopw [2, 3] (fun i j wr => ∃ (t u : Nat), t + u + 1 = n ∧ t ≤ u + 1 ∧ i = .int .i64 t ∧ j = .int .i64 u ∧ Hid (RevAt w g rs t wr)) (fun i _ _ => n - (intOf i).toNat)
  case atStart => exact ⟨0, n - 1, by omega, by omega, rfl, by rw [show ((n - 1 : Nat) : Int) = (n : Int) - 1 by omega], HI⟩
  case round =>
    obtain ⟨t, u, htu, htu2, rfl, rfl, hat⟩ := hrel
    by_cases hlt : t < u
    · obtain ⟨a, ha⟩ := revAt_get rs t t (by rw [HN.out]; omega)
      obtain ⟨b, hb⟩ := revAt_get rs t u (by rw [HN.out]; omega)
      have ca := hat.out.ce t a (by rw [HN.out]; omega) ha
      have cb := hat.out.ce u b (by rw [HN.out]; omega) hb
      obtain ⟨ca0, ca1⟩ := ca
      obtain ⟨cb0, cb1⟩ := cb
      have hfz : ∀ k, wr.frozen? ⟨g, k, none⟩ = false := fun k => by obtain ⟨C, hC⟩ := hat.out.ex; exact hC.frozen k
      have f0 := hfz (t * 2)
      have f1 := hfz (t * 2 + 1)
      have f2 := hfz (u * 2)
      have f3 := hfz (u * 2 + 1)
      have hst := rev_step hat.out hlt (by rw [HN.out]; exact htu) ha hb
      have HST := Lib.hid hst
      have hti : (t : Int) < (n : Int) := by omega
      have hui : (u : Int) < (n : Int) := by omega
      have htl : (t : Int) < (u : Int) := by omega
      have hd : decide (t < u) = true := by simpa using hlt
      clear hst hfz ha hb hat
      obtain ⟨a1, a2⟩ := a
      obtain ⟨b1, b2⟩ := b
      go_wp2_with fail
      go_region
      go_wp2_with fail
      go_roundw
      case rel => exact ⟨t + 1, u - 1, by omega, by omega, by go_num, by rw [show ((u - 1 : Nat) : Int) = (u : Int) - 1 by omega], Lib.hid HST.out.drew⟩
      case measure => simp [intOf]; omega
    · go_wp2_with fail
      go_end0
      exact ⟨rfl, t, by omega, hat.out⟩
end
section
set_option linter.unusedVariables false
set_option linter.unusedSimpArgs false
open Go.RowKit
/-- A number of 64 bits. -/
def W64 (x : Int) : Int := x % 18446744073709551616
theorem W64_bd (x : Int) : 0 ≤ W64 x ∧ W64 x < 18446744073709551616 := by unfold W64; omega
theorem wrap_u64 (x : Int) : IntKind.u64.wrap x = W64 x := by rw [IntKind.wrap_u64]; rfl
def ackLoop : Nat → St → Int → RS → RS × St
  | 0, s, lo, acc => (acc, s)
  | n + 1, s, lo, acc => ackLoop n (varN (varN s)) (W64 (W64 (lo - varR s - 1) - 1 - varR (varN s))) ((W64 (W64 (lo - varR s - 1) - 1 - varR (varN s)), W64 (lo - varR s - 1)) :: acc)
def ackTop (s : St) : Int × Int := (W64 (varR s - varR (varN (varN (varN s)))), varR s + 1)
/-- The ranges, the delay, what is left. -/
def ackR (s : St) : RS × Int × St :=
  if 16 ≤ varR (varN (varN s)) then ([], varR (varN s), varN (varN (varN (varN s))))
  else ((ackLoop (varR (varN (varN s))).toNat (varN (varN (varN (varN s)))) (ackTop s).1 [ackTop s]).1, varR (varN s), (ackLoop (varR (varN (varN s))).toNat (varN (varN (varN (varN s)))) (ackTop s).1 [ackTop s]).2)
def AckPost (w : World) (p : Nat) (T : TypeId) (P : Nat → Prop) (s : St) (e : Ending) (w' : World) : Prop :=
  ∃ r : Sl, e = .returned (.tuple #[.slice r.A r.n r.c, .int .u64 (ackR s).2.1]) ∧ InR w' (fun b => w.heap.size ≤ b) r (ackR s).1 ∧ Rdr w' p T P (ackR s).2.2 ∧ Kept (· = p) w w'
/-- What the loop keeps. -/
structure AckL (w : World) (p : Nat) (T : TypeId) (P : Nat → Prop) (g8 B : Nat) (tot : RS × St) (j : Nat) (v : Value) (wr : World) (s : St) (lo hi : Int) (rs : RS) : Prop where
  rd : Rdr wr p T (fun b => P b ∧ b < w.heap.size) s
  own : OwnR wr (g8 + 1) v rs
  cl : At wr g8 60 [.int .u64 lo, .int .u64 hi]
  kp : Kept (· = p) w wr
  eq : tot = ackLoop (B - j) s lo rs.reverse
  len : rs.length = j + 1
  sz : g8 < wr.heap.size
  l0 : 0 ≤ lo
  l1 : lo < 18446744073709551616
theorem Rdr.byt2 {w : World} {p : Nat} {T : TypeId} {P : Nat → Prop} {s : St} (h : Rdr w p T P s) : 0 ≤ varR s ∧ varR s ≤ 4611686018427387903 := varR_bd s h.byt
theorem ackLoop_succ (B j : Nat) (hj : j < B) (s : St) (lo : Int) (rs : RS) (lo' hi' : Int) (h1 : W64 (lo - varR s - 1) = hi') (h2 : W64 (hi' - 1 - varR (varN s)) = lo') : ackLoop (B - j) s lo rs.reverse = ackLoop (B - (j + 1)) (varN (varN s)) lo' (rs ++ [(lo', hi')]).reverse := by
  rw [show B - j = (B - (j + 1)) + 1 by omega, ackLoop, h1, h2, List.reverse_append]
  rfl
theorem OwnR.rev {w : World} {base : Nat} {A : Option Addr} {n c : Nat} {rs : RS} (h : OwnR w base (.slice A n c) rs) (h1 : 1 ≤ rs.length) :
    ∃ g, A = some ⟨g, 0, none⟩ ∧ RevAt w g rs 0 w ∧ base ≤ g ∧ rs.length = n ∧ n ≤ c ∧ c ≤ maxLen ∧ g < w.heap.size := by
  rcases h.1.2 with ⟨h0, h0'⟩ | ⟨g, cap, cur, e, hb, hg, k1, k2, k3, k4⟩
  · omega
  · injection e with e1 e2 e3
    subst e1; subst e3
    have hlt : g < w.heap.size := by
      rcases Nat.lt_or_ge g w.heap.size with hlt | hge
      · exact hlt
      · rw [Array.getElem?_eq_none hge] at hg; cases hg
    refine ⟨g, rfl, ⟨Kept.refl _ _, ⟨cur.toList, by unfold At; simpa using hg⟩, fun i r hi hr => ?_⟩, hb, e2.symm, by omega, k2, hlt⟩
    rw [revAt_0 _ _ hi] at hr
    have hq := rsC_get rs i r hr
    rw [← k4, List.getElem?_take_of_lt (by omega), List.getElem?_take_of_lt (by omega)] at hq
    rw [cell_of_row w g _ cur _ (0, 0) hg, cell_of_row w g _ cur _ (0, 0) hg]
    simpa using hq
theorem RevAt.inR {w wr : World} {g : Nat} {rs : RS} {t n c : Nat} {P : Nat → Prop} (h : RevAt w g rs t wr) (hn : rs.length = n) (ht : n ≤ 2 * t + 1) (hw : Wd rs) (hnc : n ≤ c) (hc : c ≤ maxLen) (hg : g < wr.heap.size) (hP : P g) : InR wr P ⟨some ⟨g, 0, none⟩, n, c⟩ rs.reverse := by
  refine ⟨⟨by rw [List.length_reverse, hn], fun r hr => hw r (by simpa using hr), fun _ => ⟨g, 0, rfl, hg, hP, fun i r hr => ?_⟩⟩, hnc, hc, fun e => by cases e⟩
  have hi := (List.getElem?_eq_some_iff.1 hr).1
  rw [List.length_reverse] at hi
  rw [Nat.zero_add]
  exact h.ce i r hi (by rw [revAt_end rs t (by omega) i hi]; exact hr)
set_option maxRecDepth 100000 in
set_option maxHeartbeats 2000000 in
theorem rack_any (p : Nat) (T : TypeId) (P : Nat → Prop) (s : St) (w : World) (hr : Rdr w p T P s) (hP : ∀ b, P b → b ≠ p) :
    Calls Try.prog 69 #[.pointer (some ⟨p, 0, none⟩)] w (AckPost w p T P s) := by
  have hpl : p < w.heap.size := by obtain ⟨_, _, _, h, _⟩ := hr; exact h.lt
  have hr0 := hr.mono (P' := fun b => P b ∧ b < w.heap.size) (fun b hb hP => ⟨hP, hb⟩)
  have hP' : ∀ b, (P b ∧ b < w.heap.size) → b ≠ p := fun b hb => hP b hb.1
  clear hr hP
  go_enter Try.func69, Try.ntmps69
  go_wp2_with fail
  refine (var_any p T _ s w hr0 hP').mono ?_
  rintro e w1 ⟨rfl, hr1, hk1⟩
  have hb0 := hr0.byt2
  go_wp2_with fail
  refine (var_any p T _ _ w1 hr1 hP').mono ?_
  rintro e w2 ⟨rfl, hr2, hk2⟩
  have hb1 := hr1.byt2
  go_wp2_with fail
  refine (var_any p T _ _ w2 hr2 hP').mono ?_
  rintro e w3 ⟨rfl, hr3, hk3⟩
  have hb2 := hr2.byt2
  go_wp2_with fail
  refine (var_any p T _ _ w3 hr3 hP').mono ?_
  rintro e w4 ⟨rfl, hr4, hk4⟩
  have hb3 := hr3.byt2
  have hk := ((hk1.trans hk2).trans hk3).trans hk4
  clear hr0 hr1 hr2 hr3 hk1 hk2 hk3 hk4
  obtain ⟨x0, hx0⟩ : ∃ x, varR s = x := ⟨_, rfl⟩
  obtain ⟨x1, hx1⟩ : ∃ x, varR (varN s) = x := ⟨_, rfl⟩
  obtain ⟨x2, hx2⟩ : ∃ x, varR (varN (varN s)) = x := ⟨_, rfl⟩
  obtain ⟨x3, hx3⟩ : ∃ x, varR (varN (varN (varN s))) = x := ⟨_, rfl⟩
  obtain ⟨s4, hs4⟩ : ∃ x, varN (varN (varN (varN s))) = x := ⟨_, rfl⟩
  have hE : ackR s = if 16 ≤ x2 then ([], x1, s4) else ((ackLoop x2.toNat s4 (W64 (x0 - x3)) [(W64 (x0 - x3), x0 + 1)]).1, x1, (ackLoop x2.toNat s4 (W64 (x0 - x3)) [(W64 (x0 - x3), x0 + 1)]).2) := by
    unfold ackR ackTop
    rw [hx0, hx1, hx2, hx3, hs4]
  rw [hx0] at hb0
  rw [hx1] at hb1
  rw [hx2] at hb2
  rw [hx3] at hb3
  rw [hs4] at hr4
  try rw [hx0]
  try rw [hx1]
  try rw [hx2]
  try rw [hx3]
  clear hx0 hx1 hx2 hx3 hs4
  have HE := Lib.hid hE
  clear hE
  by_cases h16 : 16 ≤ x2
  · have HE2 := Lib.hid (show ackR s = ([], x1, s4) by rw [HE.out, if_pos h16])
    have hd : decide (16 ≤ x2) = true := by simpa using h16
    go_wp2_with fail
    go_ret2
    refine ⟨.nil, ?_, ?_, ?_, hk⟩
    · rw [HE2.out]; rfl
    · rw [HE2.out]; exact InR.nil_ _ _
    · rw [HE2.out]; exact hr4.mono (fun b _ hb => hb.1)
  · obtain ⟨B, hB0⟩ : ∃ B : Nat, x2 = (B : Int) := ⟨x2.toNat, by omega⟩
    subst hB0
    have hB : B < 16 := by omega
    have hd : decide (16 ≤ (B : Int)) = false := by simp; omega
    obtain ⟨lo, hlo⟩ : ∃ x, W64 (x0 - x3) = x := ⟨_, rfl⟩
    have hlb := W64_bd (x0 - x3)
    have HE2 := Lib.hid (show ackR s = ((ackLoop B s4 lo [(lo, x0 + 1)]).1, x1, (ackLoop B s4 lo [(lo, x0 + 1)]).2) by rw [HE.out, if_neg h16, hlo]; rfl)
    rw [hlo] at hlb
    have ew : IntKind.u64.wrap (x0 - x3) = lo := by rw [wrap_u64, hlo]
    have hsz := hk.size
    clear h16 hlo HE
    go_wp2_with fail
    obtain ⟨g8, hg8⟩ : ∃ g8, w4.heap.size = g8 := ⟨_, rfl⟩
    obtain ⟨tot, htot⟩ : ∃ x, ackLoop B s4 lo [(lo, x0 + 1)] = x := ⟨_, rfl⟩
    rw [htot] at HE2
    have hwd0 : Wd [(lo, x0 + 1)] := fun r hr => by simp at hr; subst hr; exact ⟨hlb.1, hlb.2, by show (0:Int) ≤ x0 + 1; omega, by show x0 + 1 < _; omega⟩
    have HI : Hid (AckL w p T P g8 B tot 0 (.slice (some ⟨g8 + 1, 0, none⟩) 1 1) ((w4.alloc (.cells #[.int .u64 lo, .int .u64 (x0 + 1)] 60)).alloc (.cells #[.int .u64 lo, .int .u64 (x0 + 1)] 60)) s4 lo (x0 + 1) [(lo, x0 + 1)]) := Lib.hid
      ⟨hr4.kept (((Kept.refl (fun _ => False) w4).alloc _).alloc _) (fun h => h) (fun _ _ h => h), OwnR.one _ _ _ _ _ (by simp [hg8]) (Nat.le_refl _) hwd0, (At.new_ _ [.int .u64 lo, .int .u64 (x0 + 1)] g8 hg8.symm).alloc _, (hk.alloc _).alloc _, by simpa using htot.symm, rfl, by simp; omega, hlb.1, hlb.2⟩
    have HS := Lib.hid hg8
    have hg8w : w.heap.size ≤ g8 := by omega
    rw [hg8]
    clear hr4 hwd0 ew htot hg8 hsz
    go_loopw [9, 33] (fun l i wr => ∃ (j : Nat) (A : Option Addr) (n c : Nat) (s : St) (lo hi : Int) (rs : RS), l = .slice A n c ∧ i = .int .u64 j ∧ j ≤ B ∧ Hid (AckL w p T P g8 B tot j (.slice A n c) wr s lo hi rs)) (fun _ i _ => B - (intOf i).toNat)
    case atStart => exact ⟨0, _, _, _, _, _, _, _, rfl, rfl, by omega, HI⟩
    case round =>
      clear HI hk
      obtain ⟨j, A, n, c, s', lo', hi', rs, rfl, rfl, hj, hat⟩ := hrel
      have hszr := hat.out.sz
      by_cases hlt : j < B
      · have hlti : (j : Int) < (B : Int) := by omega
        have hlen := hat.out.len
        go_wp2_with fail
        refine (var_any p T _ s' wr hat.out.rd hP').mono ?_
        rintro e w5 ⟨rfl, hr5, hk5⟩
        have hy0 := hat.out.rd.byt2
        go_wp2_with fail
        refine (var_any p T _ _ w5 hr5 hP').mono ?_
        rintro e w6 ⟨rfl, hr6, hk6⟩
        have hy1 := hr5.byt2
        have hk56 := hk5.trans hk6
        have A6 := hat.out.cl.kept hk56 (by omega)
        have O6 := hat.out.own.kept hk56 (fun i hi e => by have := (hat.out.own.block_lt i hi).1; omega)
        have K6 := hat.out.kp.trans hk56
        have hs6 := hk56.size
        have hl0 := hat.out.l0
        have hl1 := hat.out.l1
        obtain ⟨y0, hy0e⟩ : ∃ x, varR s' = x := ⟨_, rfl⟩
        obtain ⟨y1, hy1e⟩ : ∃ x, varR (varN s') = x := ⟨_, rfl⟩
        obtain ⟨z1, hz1⟩ : ∃ x, W64 (lo' - y0) = x := ⟨_, rfl⟩
        obtain ⟨hi2, hhi2⟩ : ∃ x, W64 (z1 - 1) = x := ⟨_, rfl⟩
        obtain ⟨z3, hz3⟩ : ∃ x, W64 (hi2 - 1) = x := ⟨_, rfl⟩
        obtain ⟨lo2, hlo2⟩ : ∃ x, W64 (z3 - y1) = x := ⟨_, rfl⟩
        have bz1 := W64_bd (lo' - y0)
        have bhi := W64_bd (z1 - 1)
        have bz3 := W64_bd (hi2 - 1)
        have blo := W64_bd (z3 - y1)
        have q1 : W64 (lo' - varR s' - 1) = hi2 := by rw [hy0e, ← hhi2, ← hz1]; unfold W64; omega
        have q2 : W64 (hi2 - 1 - varR (varN s')) = lo2 := by rw [hy1e, ← hlo2, ← hz3]; unfold W64; omega
        have HEQ := Lib.hid (hat.out.eq.trans (ackLoop_succ B j hlt s' lo' rs lo2 hi2 q1 q2))
        rw [hy0e] at hy0
        rw [hy1e] at hy1
        rw [hz1] at bz1
        rw [hhi2] at bhi
        rw [hz3] at bz3
        rw [hlo2] at blo
        have e1 : IntKind.u64.wrap (lo' - y0) = z1 := by rw [wrap_u64, hz1]
        have e2 : IntKind.u64.wrap (z1 - 1) = hi2 := by rw [wrap_u64, hhi2]
        have e3 : IntKind.u64.wrap (hi2 - 1) = z3 := by rw [wrap_u64, hz3]
        have e4 : IntKind.u64.wrap (z3 - y1) = lo2 := by rw [wrap_u64, hlo2]
        try rw [hy0e]
        try rw [hy1e]
        have c0 := A6.cell 0
        have c1 := A6.cell 1
        have f0 := A6.frozen 0
        have f1 := A6.frozen 1
        simp only [List.getElem?_cons_succ, List.getElem?_cons_zero] at c0 c1
        have KS : Kept (· = g8) w6 ((w6.setCell ⟨g8, 0, none⟩ (.int .u64 lo2)).setCell ⟨g8, 1, none⟩ (.int .u64 hi2)) := ((Kept.refl _ _).setAt 0 _).setAt 1 _
        have AS := (A6.set 0 (.int .u64 lo2)).set 1 (.int .u64 hi2)
        have hss : ((w6.setCell ⟨g8, 0, none⟩ (.int .u64 lo2)).setCell ⟨g8, 1, none⟩ (.int .u64 hi2)).heap.size = w6.heap.size := by simp [World.setCell]
        have OA := (O6.kept KS (fun i hi e => by have := (O6.block_lt i hi).1; omega)).kept ((Kept.refl (fun _ => False) ((w6.setCell ⟨g8, 0, none⟩ (.int .u64 lo2)).setCell ⟨g8, 1, none⟩ (.int .u64 hi2))).alloc (.cells #[.int .u64 lo2, .int .u64 hi2] 60)) (fun _ _ h => h)
        have CA := At.new_ (w := (w6.setCell ⟨g8, 0, none⟩ (.int .u64 lo2)).setCell ⟨g8, 1, none⟩ (.int .u64 hi2)) 60 [.int .u64 lo2, .int .u64 hi2] w6.heap.size hss.symm
        have A8 := AS.alloc (.cells #[.int .u64 lo2, .int .u64 hi2] 60)
        have R8 := (hr6.kept KS (by omega) (fun b hb e => by omega)).kept ((Kept.refl (fun _ => False) ((w6.setCell ⟨g8, 0, none⟩ (.int .u64 lo2)).setCell ⟨g8, 1, none⟩ (.int .u64 hi2))).alloc (.cells #[.int .u64 lo2, .int .u64 hi2] 60)) (fun h => h) (fun _ _ h => h)
        have K8 := (K6.trans' KS (fun j hj => .inr (by omega))).trans' ((Kept.refl (fun _ => False) ((w6.setCell ⟨g8, 0, none⟩ (.int .u64 lo2)).setCell ⟨g8, 1, none⟩ (.int .u64 hi2))).alloc (.cells #[.int .u64 lo2, .int .u64 hi2] 60)) (fun _ h => h.elim)
        have hwd : Wd [(lo2, hi2)] := fun r hr => by simp at hr; subst hr; exact ⟨blo.1, blo.2, bhi.1, bhi.2⟩
        have HZ := Lib.hid hss
        have HOA := Lib.hid OA
        have HCA := Lib.hid CA
        have HA8 := Lib.hid A8
        have HR8 := Lib.hid R8
        have HK8 := Lib.hid K8
        clear q1 q2 hy0e hy1e hz1 hhi2 hz3 hlo2 OA CA A8 R8 K8 AS KS hss A6 O6 K6 hr5 hr6 hk5 hk6 hk56 hat
        go_wp2_with (at_builtin; refine wpList_append_r rfl (.tmp 50) (.tmp 52) rfl (g8 + 1) _ rs rfl HOA.out w6.heap.size 1 lo2 hi2 (by rfl) HCA.out hwd (by omega) (by have := HA8.out.lt; omega) ?_; intro v7 w7 hown7 hgr7 hv7; obtain ⟨A7, n7, c7, rfl⟩ := hown7.shape)
        have K7 := Kept.of_grown (S := fun k => (Value.slice A n c).ownBlock = some k) hgr7 (fun k hk => .inl hk)
        have hvb : ∀ k, (Value.slice A n c).ownBlock = some k → g8 + 1 ≤ k := fun k hk => (HOA.out.block_lt k hk).1
        have HF : Hid (AckL w p T P g8 B tot (j + 1) (.slice A7 n7 c7) w7 (varN (varN s')) lo2 hi2 (rs ++ [(lo2, hi2)])) := Lib.hid
          ⟨HR8.out.kept K7 (fun hk => by have := hvb _ hk; omega) (fun b hb hk => by have := hvb _ hk; omega), hown7, HA8.out.kept K7 (fun hk => by have := hvb _ hk; omega), HK8.out.trans' K7 (fun j hj => .inr (by have := hvb _ hj; omega)), HEQ.out, by simp [hlen], by have := K7.size; have := HA8.out.lt; omega, blo.1, blo.2⟩
        clear e1 e2 e3 e4 K7 hvb hown7 hgr7 hv7 c0 c1 f0 f1 hwd
        go_wp2_with fail
        go_roundw
        case rel => exact ⟨j + 1, _, _, _, _, _, _, _, rfl, by go_num, by omega, HF⟩
        case measure => simp [intOf] <;> omega
      · obtain rfl : j = B := by omega
        have heq := hat.out.eq
        rw [Nat.sub_self, ackLoop] at heq
        obtain ⟨g, rfl, hrev, hgb, hrn, hnc, hcm, hglt⟩ := hat.out.own.rev (by have := hat.out.len; omega)
        have hlen := hat.out.len
        have hwd := hat.out.own.2
        have HQ := Lib.hid heq
        have HREV := Lib.hid hrev
        have HRN := Lib.hid hrn
        have hn16 : n ≤ 16 := by omega
        have hn1 : 1 ≤ n := by omega
        clear heq hrev hrn
        go_wp2_with fail
        refine (rev_any g n c rs wr HRN.out hn1 hn16 hnc hcm HREV.out).mono ?_
        rintro e w9 ⟨rfl, t, ht, hrv⟩
        have hin := hrv.inR (c := c) (P := fun b => w.heap.size ≤ b) HRN.out ht hwd hnc hcm (Nat.lt_of_lt_of_le hglt hrv.kp.size) (by omega)
        have hr9 := (hat.out.rd.kept hrv.kp (by omega) (fun b hb e => by omega)).mono (P' := P) (fun b _ hb => hb.1)
        have hk9 := hat.out.kp.trans' hrv.kp (fun j hj => .inr (by omega))
        have HIN := Lib.hid hin
        have HR9 := Lib.hid hr9
        clear hin hr9 hrv hat
        go_wp2_with fail
        go_ret2
        refine ⟨⟨some ⟨g, 0, none⟩, n, c⟩, ?_, ?_, ?_, hk9⟩
        · rw [HE2.out]; rfl
        · rw [HE2.out, HQ.out]; exact HIN.out
        · rw [HE2.out, HQ.out]; exact HR9.out
end
section
set_option linter.unusedVariables false
set_option linter.unusedSimpArgs false
open Go.RowKit
def withC (m : FN) (c : List Int) : FN := { m with c0 := c.getD 0 0, c1 := c.getD 1 0, c2 := c.getD 2 0, c3 := c.getD 3 0, c4 := c.getD 4 0, c5 := c.getD 5 0, c6 := c.getD 6 0, c7 := c.getD 7 0 }
abbrev FD := FN × List Int × RS
/-- What stands behind a Kind as it is written. -/
def rdK (k : Int) (s : St) : Option (FN × List Int × RS × St) :=
  if k = 2 then some ({ FN.zero 2 with y := (ackR s).2.1 }, [], (ackR s).1, (ackR s).2.2)
  else if k = 4 then some ({ FN.zero 4 with s := varR s, c := varR (varN s), f := varR (varN (varN s)) }, [], [], varN (varN (varN s)))
  else if k = 5 then some ({ FN.zero 5 with s := varR s, c := varR (varN s) }, [], [], varN (varN s))
  else if k = 6 then some ({ FN.zero 6 with o := varR s }, textR (varN s), [], textN (varN s))
  else if k = 8 then some ({ FN.zero 8 with s := varR s, o := 0, fin := false }, dataR (varN s) false, [], dataN (varN s) false)
  else if k = 9 then some ({ FN.zero 8 with s := varR s, o := 0, fin := true }, dataR (varN s) false, [], dataN (varN s) false)
  else if k = 10 then some ({ FN.zero 8 with s := varR s, o := 0, fin := false }, dataR (varN s) true, [], dataN (varN s) true)
  else if k = 11 then some ({ FN.zero 8 with s := varR s, o := 0, fin := true }, dataR (varN s) true, [], dataN (varN s) true)
  else if k = 12 then some ({ FN.zero 8 with s := varR s, o := varR (varN s), fin := false }, dataR (varN (varN s)) false, [], dataN (varN (varN s)) false)
  else if k = 13 then some ({ FN.zero 8 with s := varR s, o := varR (varN s), fin := true }, dataR (varN (varN s)) false, [], dataN (varN (varN s)) false)
  else if k = 14 then some ({ FN.zero 8 with s := varR s, o := varR (varN s), fin := false }, dataR (varN (varN s)) true, [], dataN (varN (varN s)) true)
  else if k = 15 then some ({ FN.zero 8 with s := varR s, o := varR (varN s), fin := true }, dataR (varN (varN s)) true, [], dataN (varN (varN s)) true)
  else if k = 16 then some ({ FN.zero 16 with l := varR s }, [], [], varN s)
  else if k = 18 then some ({ FN.zero 18 with l := varR s }, [], [], varN s)
  else if k = 20 then some ({ FN.zero 20 with l := varR s }, [], [], varN s)
  else if k = 17 then some ({ FN.zero 17 with s := varR s, l := varR (varN s) }, [], [], varN (varN s))
  else if k = 24 then (if byteR (varN (varN s)) = 8 then some (withC { FN.zero 24 with q := varR s, l := varR (varN s) } (takeR (takeN (varN (varN s)) 1) 8), [], [], takeN (takeN (varN (varN s)) 1) 8) else none)
  else if k = 25 then some ({ FN.zero 25 with q := varR s }, [], [], varN s)
  else if k = 26 then some (withC (FN.zero 26) (takeR s 8), [], [], takeN s 8)
  else if k = 27 then some (withC (FN.zero 27) (takeR s 8), [], [], takeN s 8)
  else if k = 28 then some ({ FN.zero 28 with c := varR s }, textR (varN s), [], textN (varN s))
  else some (FN.zero k, [], [], s)
/-- The frame that comes next, and what is left behind it; none: there is none that is right. -/
def readO (s : St) : Option (FN × List Int × RS × St) :=
  if 30 < varR s then none
  else match rdK (varR s) (varN s) with
    | none => none
    | some x => if x.2.2.2.2 = false ∧ rightB x.1 x.2.1 x.2.2.1 = true then some x else none
theorem readO_of {s : St} {k : Int} {m : FN} {ds : List Int} {rs : RS} {bs : List Int} {bad : Bool} (hk : varR s = k) (h30 : k ≤ 30) (hd : rdK k (varN s) = some (m, ds, rs, (bs, bad))) :
    readO s = if bad = false ∧ rightB m ds rs = true then some (m, ds, rs, (bs, bad)) else none := by
  unfold readO
  rw [hk, if_neg (by omega), hd]
theorem readO_no {s : St} {k : Int} (hk : varR s = k) (h30 : k ≤ 30) (hd : rdK k (varN s) = none) : readO s = none := by
  unfold readO
  rw [hk, if_neg (by omega), hd]
def ReadPost (w : World) (p : Nat) (T : TypeId) (P : Nat → Prop) (s : St) (e : Ending) (w' : World) : Prop :=
  match readO s with
  | none => e = .returned (.tuple #[frV (FN.zero 0) .nil .nil, .bool false]) ∧ Kept (· = p) w w'
  | some x => ∃ d r, e = .returned (.tuple #[frV x.1 d r, .bool true]) ∧ Fits w' (fun b => w.heap.size ≤ b) x.1 d r x.2.1 x.2.2.1 ∧ Rdr w' p T P x.2.2.2 ∧ Kept (· = p) w w'
theorem ReadPost.no {w w' : World} {p : Nat} {T : TypeId} {P : Nat → Prop} {s : St} (h : readO s = none) (hk : Kept (· = p) w w') : ReadPost w p T P s (.returned (.tuple #[frV (FN.zero 0) .nil .nil, .bool false])) w' := by
  unfold ReadPost; rw [h]; exact ⟨rfl, hk⟩
theorem ReadPost.yes {w w' : World} {p : Nat} {T : TypeId} {P : Nat → Prop} {s s' : St} {m : FN} {ds : List Int} {rs : RS} {d r : Sl} (h : readO s = some (m, ds, rs, s')) (hf : Fits w' (fun b => w.heap.size ≤ b) m d r ds rs) (hr : Rdr w' p T P s') (hk : Kept (· = p) w w') : ReadPost w p T P s (.returned (.tuple #[frV m d r, .bool true])) w' := by
  unfold ReadPost; rw [h]; exact ⟨d, r, rfl, hf, hr, hk⟩
/-- On the way: the reader, the result's block, the frame's. -/
structure RdSt (w w' : World) (p : Nat) (T : TypeId) (P : Nat → Prop) (g2 g5 : Nat) (L5 : List Value) (s : St) : Prop where
  rd : Rdr w' p T (fun b => P b ∧ b < w.heap.size) s
  a2 : At w' g2 31 (frL (FN.zero 0) .nil .nil)
  a5 : At w' g5 31 L5
  kp : Kept (· = p) w w'
  g2w : w.heap.size ≤ g2
  g5w : w.heap.size ≤ g5
  g25 : g2 ≠ g5
  pl : p < w.heap.size
section
variable {w w' w'' : World} {p : Nat} {T : TypeId} {P : Nat → Prop} {g2 g5 : Nat} {L5 L6 : List Value} {s s' : St}
theorem RdSt.step (h : RdSt w w' p T P g2 g5 L5 s) (hr : Rdr w'' p T (fun b => P b ∧ b < w.heap.size) s') (hk : Kept (· = p) w' w'') : RdSt w w'' p T P g2 g5 L5 s' :=
  ⟨hr, h.a2.kept hk (by have := h.g2w; have := h.pl; omega), h.a5.kept hk (by have := h.g5w; have := h.pl; omega), h.kp.trans hk, h.g2w, h.g5w, h.g25, h.pl⟩
theorem RdSt.cell (h : RdSt w w' p T P g2 g5 L5 s) (j : Nat) (v : Value) : RdSt w (w'.setCell ⟨g5, j, none⟩ v) p T P g2 g5 (L5.set j v) s :=
  ⟨h.rd.kept ((Kept.refl (· = g5) w').setAt j v) (by have := h.g5w; have := h.pl; omega) (fun b hb e => by have := h.g5w; omega), h.a2.set_other (q := ⟨g5, j, none⟩) (fun e => h.g25 e.symm) v, h.a5.set j v, h.kp.setCell (.inr h.g5w) v, h.g2w, h.g5w, h.g25, h.pl⟩
theorem RdSt.below (h : RdSt w w' p T P g2 g5 L5 s) (hb : Below w'.heap.size w' w'') : RdSt w w'' p T P g2 g5 L5 s :=
  ⟨h.rd.kept (Kept.of_below hb (fun _ => False)) (fun h => h) (fun _ _ h => h), h.a2.below hb h.a2.lt, h.a5.below hb h.a5.lt, h.kp.trans (Kept.of_below hb _), h.g2w, h.g5w, h.g25, h.pl⟩
theorem RdSt.fits {Q : Nat → Prop} {m : FN} {d r : Sl} {ds : List Int} {rs : RS} (h : RdSt w w' p T P g2 g5 L5 s) (hw : m.wf) (hd : InD w' Q d ds) (hr : InR w' Q r rs) : Fits w' Q m d r ds rs := ⟨hw, hd, hr⟩
theorem RdSt.cast (h : RdSt w w' p T P g2 g5 L5 s) (e : L5 = L6) : RdSt w w' p T P g2 g5 L6 s := e ▸ h
/-- The result is stored. -/
theorem RdSt.out (h : RdSt w w' p T P g2 g5 L5 s) (hk : Kept (· = g2) w' w'') : Kept (· = p) w w'' ∧ Rdr w'' p T P s :=
  ⟨h.kp.trans' hk (fun j hj => .inr (by have := h.g2w; omega)), (h.rd.kept hk (by have := h.g2w; have := h.pl; omega) (fun b hb e => by have := h.g2w; omega)).mono (fun b _ hb => hb.1)⟩
theorem RdSt.start (hr : Rdr w p T P s) (hk1 : Kept (· = p) (w.alloc (.cells (frL (FN.zero 0) .nil .nil).toArray 31)) w') (hr1 : Rdr w' p T (fun b => P b ∧ b < w.heap.size) s') (L : List Value) :
    RdSt w (w'.alloc (.cells L.toArray 31)) p T P w.heap.size w'.heap.size L s' := by
  have hpl : p < w.heap.size := by obtain ⟨_, _, _, h, _⟩ := hr; exact h.lt
  have hs := hk1.size
  have hs' : (w.alloc (.cells (frL (FN.zero 0) .nil .nil).toArray 31)).heap.size = w.heap.size + 1 := by simp
  exact ⟨hr1.kept ((Kept.refl (fun _ => False) w').alloc _) (fun h => h) (fun _ _ h => h), ((At.new w _ _).kept hk1 (by omega)).alloc _, At.new _ _ _, ((Kept.of_below ((Below.refl _ _).alloc (Nat.le_refl _) _) _).trans hk1).alloc _, Nat.le_refl _, by omega, by omega, hpl⟩
end
theorem Own.inD {w : World} {base n c : Nat} {e : TypeId} {A : Option Addr} {bs : List Int} (h : Own w base e (.slice A n c) bs) (hn : bs.length = n) : InD w (fun b => base ≤ b) ⟨A, n, c⟩ bs := by
  have hA := h.nil_cap
  obtain ⟨A', c', e', h1, h2, h3⟩ := h.open_n n hn
  injection e' with e1 e2 e3
  subst e1; subst e3
  have := (h.rdP hn).mono (P' := fun b => base ≤ b) (fun b _ hb => (h.block_lt b hb).1)
  exact ⟨this, h1, h2, hA⟩
theorem Own.len_eq {w : World} {base n c : Nat} {e : TypeId} {A : Option Addr} {bs : List Int} (h : Own w base e (.slice A n c) bs) : bs.length = n := by
  obtain ⟨A', c', e', _⟩ := h.open_
  injection e' with e1 e2 e3
  exact e2.symm
/-- What a row of a later base reads as, where the frame's block was written. -/
theorem InD.after {w w' : World} {g5 base : Nat} {d : Sl} {ds : List Int} (h : InD w (fun b => base ≤ b) d ds) (hg : g5 < base) (b0 : Nat) (hb0 : b0 ≤ base) (hk : Kept (· = g5) w w') : InD w' (fun b => b0 ≤ b) d ds := by
  have := h.kept hk (fun b hb e => by omega)
  exact ⟨this.rd.mono (fun b _ hb => by omega), this.lc, this.cm, this.nil⟩
theorem InR.after {w w' : World} {g5 base : Nat} {d : Sl} {ds : RS} (h : InR w (fun b => base ≤ b) d ds) (hg : g5 < base) (b0 : Nat) (hb0 : b0 ≤ base) (hk : Kept (· = g5) w w') : InR w' (fun b => b0 ≤ b) d ds := by
  have := h.kept hk (fun b hb e => by omega)
  exact ⟨this.rd.mono (fun b _ hb => by omega), this.lc, this.cm, this.nil⟩
theorem wf_set {m : FN} (h : m.wf) (s o l c f q y : Int) (fin : Bool) (hs : 0 ≤ s ∧ s ≤ 4611686018427387903) (ho : 0 ≤ o ∧ o ≤ 4611686018427387903) (hl : 0 ≤ l ∧ l ≤ 4611686018427387903) (hc : 0 ≤ c ∧ c ≤ 4611686018427387903) (hf : 0 ≤ f ∧ f ≤ 4611686018427387903) (hq : 0 ≤ q ∧ q ≤ 4611686018427387903) (hy : 0 ≤ y ∧ y ≤ 4611686018427387903) :
    ({ m with s := s, o := o, l := l, c := c, f := f, q := q, y := y, fin := fin } : FN).wf :=
  ⟨h.k0, h.k1, hs.1, by show s < _; omega, ho.1, by show o < _; omega, hl.1, by show l < _; omega, hc.1, by show c < _; omega, hf.1, by show f < _; omega, hq.1, by show q < _; omega, hy.1, by show y < _; omega, h.cid⟩
theorem wf_withC {m : FN} (h : m.wf) (c : List Int) (hc : Byt c) : (withC m c).wf :=
  ⟨h.k0, h.k1, h.s0, h.s1, h.o0, h.o1, h.l0, h.l1, h.c0, h.c1, h.f0, h.f1, h.q0, h.q1, h.y0, h.y1, fun x hx => by
    simp only [withC, List.mem_cons, List.not_mem_nil, or_false] at hx
    rcases hx with rfl | rfl | rfl | rfl | rfl | rfl | rfl | rfl <;> exact hc.getD _⟩
theorem takeR_byt (s : St) (n : Int) (h : Byt s.1) : Byt (takeR s n) := by
  unfold takeR
  split
  · exact h.take _
  · exact Byt.nil
theorem z62 : (0 : Int) ≤ 0 ∧ (0 : Int) ≤ 4611686018427387903 := by omega
/-- An Ack's delay. -/
theorem ackR_bd (s : St) (h : Byt (varN s).1) : 0 ≤ (ackR s).2.1 ∧ (ackR s).2.1 ≤ 4611686018427387903 := by
  unfold ackR
  split <;> exact varR_bd _ h
theorem varN_byt (s : St) (h : Byt s.1) : Byt (varN s).1 := by
  unfold varN takeN
  split
  · exact Byt.nil
  · split
    · exact h.drop _
    · exact Byt.nil
end
end Go.Proofs.Ytkahndjflhgccaa
