/-
  The eight bytes of a name, as they are read, by the document's own answer (narthexref4.name).
-/
import Derived.Test.YtkahndjflhgccaaMf
import Derived.Test.YtkahndjflhgccaaMd
import Derived.Laws.CopyOwn
import Derived.Test.YtkahndjflhgccaaFqk
import Derived.Test.YtkahndjflhgccaaMg
import Derived.IntWalk
import Derived.OwnWalk
import Derived.Deep.RegionHeld3
namespace Go.Proofs.Ytkahndjflhgccaa
section
set_option linter.unusedVariables false
set_option linter.unusedSimpArgs false
open Go.RowKit
set_option maxRecDepth 100000 in
set_option maxHeartbeats 1000000 in
theorem rcname_any (p : Nat) (T : TypeId) (P : Nat → Prop) (s : St) (w : World) (hr : Rdr w p T P s) (hP : ∀ b, P b → b ≠ p) (hl : s.1.length ≤ 140737488355000) :
    Calls Try.prog 60 #[.pointer (some ⟨p, 0, none⟩)] w (CidPost w p T P s) := by
  have hpl : p < w.heap.size := by obtain ⟨_, _, _, h, _⟩ := hr; exact h.lt
  obtain ⟨N, hN⟩ : ∃ N, (takeR s 8).length = N := ⟨_, rfl⟩
  have hN8 : N ≤ 8 := by rcases takeR8 s with h | h; omega; rw [h] at hN; simp at hN; omega
  have HN := Lib.hid hN
  have hsp : splice (List.replicate 8 (Value.int .u8 0)) 0 ((takeR s 8).map (Value.int .u8)) = (cid8 (takeR s 8)).map (Value.int .u8) := by
    rcases takeR8 s with h | h
    · rw [cid8_full _ h]
      match takeR s 8, h with
      | [a, b, c, d, e, f, g, i], _ => rfl
    · rw [h]; rfl
  have HSP := Lib.hid hsp
  have hc8 : ((cid8 (takeR s 8)).map (Value.int .u8)).length = 8 := rfl
  have hr' := hr.mono (P' := fun b => P b ∧ b < w.heap.size) (fun b hb hP => ⟨hP, hb⟩)
  have hP' : ∀ b, (P b ∧ b < w.heap.size) → b ≠ p := fun b hb => hP b hb.1
  have hrA : Rdr ((w.alloc (.cells (List.replicate 8 (Value.int .u8 0)).toArray 29)).alloc (.cells (List.replicate 8 (Value.int .u8 0)).toArray 29)) p T (fun b => P b ∧ b < w.heap.size) s :=
    hr'.kept (((Kept.refl (fun _ => False) w).alloc _).alloc _) (fun h => h) (fun _ _ h => h)
  have hbA : Below w.heap.size w ((w.alloc (.cells (List.replicate 8 (Value.int .u8 0)).toArray 29)).alloc (.cells (List.replicate 8 (Value.int .u8 0)).toArray 29)) := ((Below.refl _ _).alloc (Nat.le_refl _) _).alloc (by simp) _
  have hA2 : At ((w.alloc (.cells (List.replicate 8 (Value.int .u8 0)).toArray 29)).alloc (.cells (List.replicate 8 (Value.int .u8 0)).toArray 29)) w.heap.size 29 (List.replicate 8 (Value.int .u8 0)) := (At.new w _ _).alloc _
  have hA3 : At ((w.alloc (.cells (List.replicate 8 (Value.int .u8 0)).toArray 29)).alloc (.cells (List.replicate 8 (Value.int .u8 0)).toArray 29)) (w.heap.size + 1) 29 (List.replicate 8 (Value.int .u8 0)) := At.new_ _ _ _ (by simp)
  clear hN hsp
  go_enter Try.func60, Try.ntmps60
  go_wp2_with fail
  change (Code.region _ _ _).wp _ _ _ ((w.alloc (.cells (List.replicate 8 (Value.int .u8 0)).toArray 29)).alloc (.cells (List.replicate 8 (Value.int .u8 0)).toArray 29))
  obtain ⟨w1, hw1⟩ : ∃ w1, (w.alloc (.cells (List.replicate 8 (Value.int .u8 0)).toArray 29)).alloc (.cells (List.replicate 8 (Value.int .u8 0)).toArray 29) = w1 := ⟨_, rfl⟩
  rw [hw1] at hrA hbA hA2 hA3 ⊢
  clear hw1
  have hrA := hrA.drewN 1
  have hA2 := hA2.drew
  have hA3 := hA3.drew
  have hp3 := hA3.lt

  refine wp_region_held_drew (S := (fun _ => True)) (by kernel_rfl) (trivial) (fun hHeld => ?_)
  refine tkp 0 (some 4) (v := ?_) rfl (Or.inl ⟨by rfl, ?_⟩) (by assumption) ?_
  rotate_left
  · intro w hSw; (try dsimp only at hSw); go_simp; first | done | (with_reducible rfl)
  simp only [Act.put, List.setIfInBounds_toArray, List.set_cons_zero, List.set_cons_succ]
  refine tkp 1 (some 5) (v := ?_) rfl (Or.inl ⟨by rfl, ?_⟩) (by assumption) ?_
  rotate_left
  · intro w hSw; (try dsimp only at hSw); go_simp; first | done | (with_reducible rfl)
  simp only [Act.put, List.setIfInBounds_toArray, List.set_cons_zero, List.set_cons_succ]
  refine wpAnyH_ready (rs := [2]) (by kernel_rfl) (by simp) ?_
  refine AllReadyH.cons rfl (fun K hK => ?_) AllReadyH.nil
  go_simp
  go_wp2_with ((go_at_call 57; refine (rraw_any p T (fun b => P b ∧ b < w.heap.size) s 8 _ hrA hP' hl).mono ?_; rintro e w2 ⟨v2, rfl, hown, hr2, hk2⟩; obtain ⟨A2, c2, rfl, g1, g2, g3⟩ := hown.open_n N HN.out))
  refine hK.out _ _ (trivial) (fun hHeld => ?_)
  clear hK K
  have B2 := hA2.kept hk2 (by omega)
  have B3 := hA3.kept hk2 (by omega)
  have hpa : N ≤ 8 := hN8
  refine wpAnyH_ready (rs := [3]) (by kernel_rfl) (by simp) ?_
  refine AllReadyH.cons rfl (fun K hK => ?_) AllReadyH.nil
  refine step_copy_splice rfl (.tmp 4) (.tmp 6) 26 26 rfl 5 Try.underlying26 (by kernel_rfl) (some ⟨w.heap.size + 1, 0, none⟩) A2 8 8 N c2 rfl rfl (w.heap.size + 1) 0 (List.replicate 8 (Value.int .u8 0)) 29 B3 ((takeR s 8).map (Value.int .u8))
    (by rw [List.length_map, HN.out]; exact (Nat.min_eq_left hN8).symm) (fun hp => ⟨rfl, g3.cells (by rw [List.length_map, HN.out] at hp; exact hp)⟩) (by rw [List.length_map, HN.out]; simp; omega) (oneCell_u8 _) (w.heap.size + 1) w2 (Below.refl _ _) (Nat.le_refl _) ?_
  intro w3 hb3 hbl3
  rw [HSP.out] at hb3
  refine hK.out _ _ trivial (fun hHeld => ?_)
  clear hK K
  refine wpAnyH_done (by kernel_rfl) ?_ _
  have C3 : At w3 (w.heap.size + 1) 29 ((cid8 (takeR s 8)).map (Value.int .u8)) := hb3.out
  have C2 := B2.below hbl3 (by omega)
  have hr3 := hr2.kept (Kept.of_belowB hbl3) (by omega) (fun b hb hs => by omega)
  have hk3 : Kept (· = p) w w3 := ((Kept.of_below hbA _).trans hk2.from_drewN).trans' (Kept.of_belowB hbl3) (fun j hj => .inr (by omega))
  go_wp2_with (first | (refine wpList_load_at (ty := 29) (w.heap.size + 1) _ ((cid8 (takeR s 8)).map (Value.int .u8)) _ (by rfl) C3 Try.underlying29 rfl cid_info ?_) | (refine wpList_store_at (ty := 29) w.heap.size _ (List.replicate 8 (Value.int .u8 0)) ((cid8 (takeR s 8)).map (Value.int .u8)) (by rfl) (by rfl) C2 rfl cid_info (by rfl) ?_; intro w4 D4 hk4) | fail)
  refine bodyPost_ret (results_cell 2 29 (by rfl) _ 29 _ _ (by rfl) D4 Try.underlying29 rfl cid_info) rfl ?_
  exact ⟨rfl, (hr3.kept hk4 (by omega) (fun b hb hs => by omega)).mono (fun b _ hb => hb.1), hk3.trans' hk4 (fun j hj => .inr (by omega))⟩
end
section
set_option linter.unusedVariables false
set_option linter.unusedSimpArgs false
open Go.RowKit
def akLoop : Nat → St → Int → RS → Option (RS × St)
  | 0, s, _, acc => some (acc, s)
  | n + 1, s, lo, acc =>
    if (varN (varN s)).2 = true ∨ lo ≤ varR s + 1 ∨ lo - varR s - 2 < varR (varN s) then none
    else akLoop n (varN (varN s)) (lo - varR s - 2 - varR (varN s)) ((lo - varR s - 2 - varR (varN s), lo - varR s - 1) :: acc)
def akS (s : St) : Option (RS × Int × St) :=
  if (varN (varN (varN (varN s)))).2 = true ∨ varR s < varR (varN (varN (varN s))) ∨ 16 ≤ varR (varN (varN s)) then none
  else (akLoop (varR (varN (varN s))).toNat (varN (varN (varN (varN s)))) (varR s - varR (varN (varN (varN s)))) [(varR s - varR (varN (varN (varN s))), varR s + 1)]).map fun x => (x.1, varR (varN s), x.2)
theorem takeN_bad (s : St) (n : Int) (h : s.2 = true) : (takeN s n).2 = true := by
  unfold takeN; split <;> simp [h]
theorem varN_bad (s : St) (h : s.2 = true) : (varN s).2 = true := by
  unfold varN; split
  · rfl
  · exact takeN_bad s _ h
theorem ackLoop_mem (r : Int × Int) : ∀ (n : Nat) (s : St) (lo : Int) (acc : RS), r ∈ acc → r ∈ (ackLoop n s lo acc).1
  | 0, _, _, _, h => h
  | n + 1, s, lo, acc, h => ackLoop_mem r n _ _ _ (List.mem_cons_of_mem _ h)
theorem ackLoop_bad : ∀ (n : Nat) (s : St) (lo : Int) (acc : RS), s.2 = true → (ackLoop n s lo acc).2.2 = true
  | 0, _, _, _, h => h
  | n + 1, s, lo, acc, h => ackLoop_bad n _ _ _ (varN_bad _ (varN_bad _ h))
theorem ak_loop : ∀ (n : Nat) (s : St) (lo : Int) (acc : RS), Byt s.1 → 0 ≤ lo → lo ≤ 4611686018427387904 →
    match akLoop n s lo acc with
    | some x => ackLoop n s lo acc = x
    | none => (ackLoop n s lo acc).2.2 = true ∨ ∃ r ∈ (ackLoop n s lo acc).1, ¬ (r.1 < r.2 ∧ r.2 ≤ 4611686018427387904)
  | 0, s, lo, acc, _, _, _ => rfl
  | n + 1, s, lo, acc, hb, h0, h1 => by
    have b1 := varR_bd s hb
    have hb2 := varN_byt s hb
    have b2 := varR_bd (varN s) hb2
    by_cases hbad : (varN (varN s)).2 = true
    · rw [akLoop, if_pos (.inl hbad)]
      exact .inl (ackLoop_bad n _ _ _ hbad)
    · by_cases hc : lo ≤ varR s + 1 ∨ lo - varR s - 2 < varR (varN s)
      · rw [akLoop, if_pos (.inr hc)]
        refine .inr ⟨(W64 (W64 (lo - varR s - 1) - 1 - varR (varN s)), W64 (lo - varR s - 1)), ackLoop_mem _ n _ _ _ List.mem_cons_self, ?_⟩
        unfold W64
        simp only
        omega
      · have e1 : W64 (lo - varR s - 1) = lo - varR s - 1 := by unfold W64; omega
        have e2 : W64 (lo - varR s - 1 - 1 - varR (varN s)) = lo - varR s - 2 - varR (varN s) := by unfold W64; omega
        rw [akLoop, if_neg (by intro h; rcases h with h | h; exact hbad h; exact hc h), ackLoop, e1, e2]
        exact ak_loop n _ _ _ (varN_byt _ hb2) (by omega) (by omega)
theorem rr_none (rs : RS) (h : ∃ r ∈ rs, ¬ (r.1 < r.2 ∧ r.2 ≤ 4611686018427387904)) : rrB rs = false := by
  cases hb : rrB rs with
  | false => rfl
  | true =>
    obtain ⟨r, hr, hn⟩ := h
    obtain ⟨_, hst, hl⟩ := rr_all rs hb
    obtain ⟨i, hi, e⟩ := List.mem_iff_getElem.1 hr
    have hx : rs[i]? = some r := by rw [List.getElem?_eq_getElem hi, e]
    have h1 := (steps_get rs (-1) hst i r hx).2
    have h2 := steps_le rs (-1) hst i r hx
    exact absurd ⟨h1, by omega⟩ hn
theorem ack_eq (s : St) (hb : Byt s.1) :
    match akS s with
    | some x => ackR s = x
    | none => (ackR s).2.2.2 = true ∨ rrB (ackR s).1 = false := by
  have b0 := varR_bd s hb
  have hb1 := varN_byt s hb
  have hb2 := varN_byt _ hb1
  have b2 := varR_bd _ hb2
  have hb3 := varN_byt _ hb2
  have b3 := varR_bd _ hb3
  have hb4 := varN_byt _ hb3
  unfold akS ackR ackTop
  by_cases h16 : 16 ≤ varR (varN (varN s))
  · rw [if_pos (.inr (.inr h16)), if_pos h16]
    exact .inr rfl
  · rw [if_neg h16]
    by_cases hbad : (varN (varN (varN (varN s)))).2 = true
    · rw [if_pos (.inl hbad)]
      exact .inl (ackLoop_bad _ _ _ _ hbad)
    · by_cases hf : varR s < varR (varN (varN (varN s)))
      · rw [if_pos (.inr (.inl hf))]
        refine .inr (rr_none _ ⟨_, ackLoop_mem _ _ _ _ _ List.mem_cons_self, ?_⟩)
        unfold W64
        simp only
        omega
      · rw [if_neg (by intro h; rcases h with h | h | h; exact hbad h; exact hf h; exact h16 h)]
        have e : W64 (varR s - varR (varN (varN (varN s)))) = varR s - varR (varN (varN (varN s))) := by unfold W64; omega
        rw [e]
        have hk := ak_loop (varR (varN (varN s))).toNat (varN (varN (varN (varN s)))) (varR s - varR (varN (varN (varN s)))) [(varR s - varR (varN (varN (varN s))), varR s + 1)] hb4 (by omega) (by omega)
        cases ha : akLoop (varR (varN (varN s))).toNat (varN (varN (varN (varN s)))) (varR s - varR (varN (varN (varN s)))) [(varR s - varR (varN (varN (varN s))), varR s + 1)] with
        | none =>
          rw [ha] at hk
          exact hk.imp id (rr_none _)
        | some x =>
          rw [ha] at hk
          simp only [Option.map_some]
          rw [hk]
end
section
set_option linter.unusedVariables false
set_option linter.unusedSimpArgs false
open Go.RowKit
theorem rsC_cells' {w : World} {P : Nat → Prop} {A : Option Addr} {n : Nat} {rs : RS} (h : RgP w P A n rs) (ad : Addr) (hA : A = some ad) (j : Nat) (u : Value) (hu : (rsC rs)[j]? = some u) : w.cell? (ad.add j) = some u := by
  subst hA
  have hj := (List.getElem?_eq_some_iff.1 hu).1
  rw [rsC_len] at hj
  have hn := h.1
  obtain ⟨b, off, e, _, _, hc⟩ := h.2.2 (by omega)
  injection e with e
  subst e
  have hi : j / 2 < rs.length := by omega
  have hx : rs[j / 2]? = some rs[j / 2] := List.getElem?_eq_getElem hi
  have c := hc (j / 2) _ hx
  have g := rsC_get rs (j / 2) _ hx
  rw [addr_add]
  rcases Nat.mod_two_eq_zero_or_one j with h0 | h0
  · have ej : j = j / 2 * 2 := by omega
    rw [ej, g.1] at hu
    rw [ej, c.1]; exact hu
  · have ej : j = j / 2 * 2 + 1 := by omega
    rw [ej, g.2] at hu
    rw [ej, ← Nat.add_assoc, c.2]; exact hu
/-- append(v, rs...): v a row of ranges of the call's own. -/
theorem wpList_append_rr {w : World} {ops : Array Oper} {rest : List Oper} {o : Oper} {a : Act} {Q : Exit → Act → World → Prop} (hgd : o.guard = none) (s x : Operand)
    (ho : o.op = .call { callee := .builtin .append, args := #[s, x], argTypes := #[27, 27] }) (base : Nat) (v : Value) (r1 : RS) (hs : a.eval s = v) (hown : OwnR w base v r1) (P : Nat → Prop) (ad : Addr) (n c : Nat) (rs : RS)
    (hx : a.eval x = .slice (some ad) n c) (hr : RgP w P (some ad) n rs) (hl1 : r1.length ≤ 1000) (hl : n ≤ 1000000) (hbase : base ≤ w.heap.size)
    (h : ∀ v' w', OwnR w' base v' (r1 ++ rs) → w.grownBy w' v.ownBlock → wpList Try.prog ops Q rest (a.put o.dst v') w') : wpList Try.prog ops Q (o :: rest) a w := by
  have hI := rg_info
  cases hq : Try.prog.info? 60 with
  | none => rw [hq] at hI; cases hI
  | some i =>
    rw [hq] at hI
    simp only [Option.map_some, Option.some.injEq, Prod.mk.injEq] at hI
    refine wpList_plain hgd fun K hK => ?_
    obtain ⟨v', w', k1, k2, k3, _, k5⟩ := run_append_own_at (P := Try.prog) (w := w) base 27 o.type 60 i _ 2 16 Try.underlying27 hq hI.1 hI.2.1 hI.2.2 rfl (by omega) v r1.length (rsC r1) hown.1 ad n c (rsC rs) (by rw [rsC_len, hr.1]) (rsC_cells' hr ad rfl) (rsC_one rs) (by unfold maxLen; omega) (by omega) hbase
    unfold Oper.wp
    simp [execOp, ho, resolve, invoke, builtin, hs, hx, k1, Result.andThen]
    refine hK _ _ (h v' w' ⟨?_, ?_⟩ k3)
    · rw [rsC_app, List.length_append, hr.1]; exact k2
    · intro r hr'
      rcases List.mem_append.1 hr' with hr' | hr'
      · exact hown.2 r hr'
      · exact hr.2.1 r hr'
theorem Rdr.bad_cell {w : World} {p : Nat} {T : TypeId} {P : Nat → Prop} {s : St} (h : Rdr w p T P s) : w.cell? ⟨p, 1, none⟩ = some (.bool s.2) := by
  obtain ⟨A, n, c, h1, _⟩ := h
  exact (h1.cell 1).trans rfl
def AkPost (w : World) (p : Nat) (T : TypeId) (P : Nat → Prop) (s : St) (e : Ending) (w' : World) : Prop :=
  match akS s with
  | none => e = .returned (.tuple #[.slice none 0 0, .int .u64 0, .bool false]) ∧ Kept (· = p) w w'
  | some x => ∃ r : Sl, e = .returned (.tuple #[.slice r.A r.n r.c, .int .u64 x.2.1, .bool true]) ∧ InR w' (fun b => w.heap.size ≤ b) r x.1 ∧ Rdr w' p T P x.2.2 ∧ Kept (· = p) w w'
/-- What the loop keeps. -/
structure AkAt (w : World) (p : Nat) (T : TypeId) (P : Nat → Prop) (B : Nat) (tot : Option (RS × St)) (j : Nat) (A : Option Addr) (n c : Nat) (s : St) (lo hi : Int) (l : RS) (wr : World) : Prop where
  rd : Rdr wr p T (fun b => P b ∧ b < w.heap.size) s
  own : OwnR wr w.heap.size (.slice A n c) ((lo, hi) :: l)
  kp : Kept (· = p) w wr
  eq : tot = akLoop (B - j) s lo ((lo, hi) :: l)
  len : l.length = j
  l0 : 0 ≤ lo
  l1 : lo ≤ 4611686018427387904
set_option maxRecDepth 100000 in
set_option maxHeartbeats 4000000 in
theorem racks_any (p : Nat) (T : TypeId) (P : Nat → Prop) (s : St) (w : World) (hr : Rdr w p T P s) (hP : ∀ b, P b → b ≠ p) :
    Calls Try.prog 58 #[.pointer (some ⟨p, 0, none⟩)] w (AkPost w p T P s) := by
  have hpl : p < w.heap.size := by obtain ⟨_, _, _, h, _⟩ := hr; exact h.lt
  have hr0 := hr.mono (P' := fun b => P b ∧ b < w.heap.size) (fun b hb hP => ⟨hP, hb⟩)
  have hP' : ∀ b, (P b ∧ b < w.heap.size) → b ≠ p := fun b hb => hP b hb.1
  clear hr hP
  go_enter Try.func58, Try.ntmps58
  go_wp2_with fail
  refine (rvar_any p T _ s w hr0 hP').mono ?_
  rintro e w1 ⟨rfl, hr1, hk1⟩
  have hb0 := hr0.byt2
  go_wp2_with fail
  refine (rvar_any p T _ _ w1 hr1 hP').mono ?_
  rintro e w2 ⟨rfl, hr2, hk2⟩
  have hb1 := hr1.byt2
  go_wp2_with fail
  refine (rvar_any p T _ _ w2 hr2 hP').mono ?_
  rintro e w3 ⟨rfl, hr3, hk3⟩
  have hb2 := hr2.byt2
  go_wp2_with fail
  refine (rvar_any p T _ _ w3 hr3 hP').mono ?_
  rintro e w4 ⟨rfl, hr4, hk4⟩
  have hb3 := hr3.byt2
  have hk := ((hk1.trans hk2).trans hk3).trans hk4
  clear hr0 hr1 hr2 hr3 hk1 hk2 hk3 hk4
  obtain ⟨x0, hx0⟩ : ∃ x, varR s = x := ⟨_, rfl⟩
  obtain ⟨x1, hx1⟩ : ∃ x, varR (varN s) = x := ⟨_, rfl⟩
  obtain ⟨x2, hx2⟩ : ∃ x, varR (varN (varN s)) = x := ⟨_, rfl⟩
  obtain ⟨x3, hx3⟩ : ∃ x, varR (varN (varN (varN s))) = x := ⟨_, rfl⟩
  obtain ⟨s4, hs4⟩ : ∃ x, varN (varN (varN (varN s))) = x := ⟨_, rfl⟩
  have hE : akS s = if s4.2 = true ∨ x0 < x3 ∨ 16 ≤ x2 then none else (akLoop x2.toNat s4 (x0 - x3) [(x0 - x3, x0 + 1)]).map fun x => (x.1, x1, x.2) := by
    unfold akS
    rw [hx0, hx1, hx2, hx3, hs4]
  rw [hx0] at hb0
  rw [hx1] at hb1
  rw [hx2] at hb2
  rw [hx3] at hb3
  rw [hs4] at hr4
  try rw [hx0]
  try rw [hx1]
  try rw [hx2]
  try rw [hx3]
  clear hx0 hx1 hx2 hx3 hs4
  have HE := Lib.hid hE
  clear hE
  have hbc := hr4.bad_cell
  have hp4 : p < w4.heap.size := Nat.lt_of_lt_of_le hpl hk.size
  by_cases hno : s4.2 = true ∨ x0 < x3 ∨ 16 ≤ x2
  · have HF : Hid (∀ e w', e = .returned (.tuple #[.slice none 0 0, .int .u64 0, .bool false]) → Kept (· = p) w w' → AkPost w p T P s e w') := Lib.hid (fun e w' h1 h2 => by
      unfold AkPost; rw [HE.out, if_pos hno]; exact ⟨h1, h2⟩)
    cases hbad : s4.2 with
    | true =>
      rw [hbad] at hbc
      clear HE hno hbad hr4
      go_wp2_with fail
      go_ret3
      exact HF.out _ _ rfl hk
    | false =>
      rw [hbad] at hbc
      rw [hbad] at hno
      have hno2 : x0 < x3 ∨ 16 ≤ x2 := by simpa using hno
      clear HE hno hbad hr4
      rcases Int.lt_or_le x0 x3 with h3 | h3
      · have hd1 : decide (x0 < x3) = true := by simpa using h3
        go_wp2_with fail
        go_ret3
        exact HF.out _ _ rfl hk
      · have hd1 : decide (x0 < x3) = false := by simp; omega
        have hd2 : decide (16 ≤ x2) = true := by simp; omega
        go_wp2_with fail
        go_ret3
        exact HF.out _ _ rfl hk
  · have hbad : s4.2 = false := by
      cases h : s4.2 with
      | false => rfl
      | true => exact absurd (.inl h) hno
    have h3 : x3 ≤ x0 := by omega
    have h16 : x2 < 16 := by omega
    obtain ⟨B, hB0⟩ : ∃ B : Nat, x2 = (B : Int) := ⟨x2.toNat, by omega⟩
    subst hB0
    have hB : B < 16 := by omega
    rw [hbad] at hbc
    have hd1 : decide (x0 < x3) = false := by simp; omega
    have hd2 : decide (16 ≤ (B : Int)) = false := by simp; omega
    have HE2 := Lib.hid (show akS s = (akLoop B s4 (x0 - x3) [(x0 - x3, x0 + 1)]).map (fun x => (x.1, x1, x.2)) by rw [HE.out, if_neg hno]; rfl)
    clear HE hno hbad
    have hw1 : IntKind.u64.wrap (x0 - x3) = x0 - x3 := IntWalk.u64_in _ (by omega)
    have hw2 : IntKind.u64.wrap (x0 + 1) = x0 + 1 := IntWalk.u64_in _ (by omega)
    go_wp2_with fail
    obtain ⟨tot, htot⟩ : ∃ x, akLoop B s4 (x0 - x3) [(x0 - x3, x0 + 1)] = x := ⟨_, rfl⟩
    rw [htot] at HE2
    obtain ⟨lo, hlo⟩ : ∃ x, x0 - x3 = x := ⟨_, rfl⟩
    obtain ⟨hi, hhi⟩ : ∃ x, x0 + 1 = x := ⟨_, rfl⟩
    rw [hlo, hhi] at htot
    have l0 : 0 ≤ lo := by omega
    have l1 : lo ≤ 4611686018427387904 := by omega
    have k0 : 0 ≤ hi := by omega
    have k1 : hi < 18446744073709551616 := by omega
    have hwd0 : Wd [(lo, hi)] := fun r hr => by simp at hr; subst hr; exact ⟨l0, by show lo < _; omega, k0, k1⟩
    have HI : Hid (AkAt w p T P B tot 0 (some ⟨w4.heap.size, 0, none⟩) 1 1 s4 lo hi [] (w4.alloc (.cells #[.int .u64 lo, .int .u64 hi] 60))) := Lib.hid
      ⟨hr4.kept ((Kept.refl (fun _ => False) w4).alloc _) (fun h => h) (fun _ _ h => h), OwnR.one _ _ _ _ _ rfl hk.size hwd0, hk.alloc _, by simpa using htot.symm, rfl, l0, l1⟩
    try rw [hlo]
    try rw [hhi]
    clear hr4 hwd0 htot hlo hhi hw1 hw2 hbc
    go_loopw [9, 10] (fun l i wr => ∃ (j : Nat) (A : Option Addr) (n c : Nat) (s : St) (lo hi : Int) (rs : RS), l = .slice A n c ∧ i = .int .u64 j ∧ j ≤ B ∧ Hid (AkAt w p T P B tot j A n c s lo hi rs wr)) (fun _ i _ => B - (intOf i).toNat)
    case atStart => exact ⟨0, _, _, _, _, _, _, _, rfl, rfl, by omega, HI⟩
    case round =>
      clear HI hk l0 l1 k0 k1
      obtain ⟨j, A, n, c, s', lo', hi', rs, rfl, rfl, hj, hat⟩ := hrel
      by_cases hlt : j < B
      · have hlti : (j : Int) < (B : Int) := by omega
        go_wp2_with fail
        refine (rvar_any p T _ s' wr hat.out.rd hP').mono ?_
        rintro e w5 ⟨rfl, hr5, hk5⟩
        have hy0 := hat.out.rd.byt2
        go_wp2_with fail
        refine (rvar_any p T _ _ w5 hr5 hP').mono ?_
        rintro e w6 ⟨rfl, hr6, hk6⟩
        have hy1 := hr5.byt2
        have hk56 := hk5.trans hk6
        have O6 := hat.out.own.kept hk56 (fun i hi e => by have := (hat.out.own.block_lt i hi).1; omega)
        have K6 := hat.out.kp.trans hk56
        have hs6 := K6.size
        have hl0 := hat.out.l0
        have hl1 := hat.out.l1
        have hlen := hat.out.len
        have hbc := hr6.bad_cell
        have hstep : akLoop (B - j) s' lo' ((lo', hi') :: rs) = if (varN (varN s')).2 = true ∨ lo' ≤ varR s' + 1 ∨ lo' - varR s' - 2 < varR (varN s') then none else akLoop (B - (j + 1)) (varN (varN s')) (lo' - varR s' - 2 - varR (varN s')) ((lo' - varR s' - 2 - varR (varN s'), lo' - varR s' - 1) :: (lo', hi') :: rs) := by
          rw [show B - j = (B - (j + 1)) + 1 by omega, akLoop]
        obtain ⟨y0, hy0e⟩ : ∃ x, varR s' = x := ⟨_, rfl⟩
        obtain ⟨y1, hy1e⟩ : ∃ x, varR (varN s') = x := ⟨_, rfl⟩
        obtain ⟨s6, hs6e⟩ : ∃ x, varN (varN s') = x := ⟨_, rfl⟩
        rw [hy0e, hy1e, hs6e] at hstep
        rw [hy0e] at hy0
        rw [hy1e] at hy1
        rw [hs6e] at hr6 hbc
        have HST := Lib.hid (hat.out.eq.trans hstep)
        try rw [hy0e]
        try rw [hy1e]
        obtain ⟨A', c', hv, hin⟩ := O6.open_ n (by have := hat.out.own.1.1; have h2 := O6.open_ _ rfl; obtain ⟨_, _, h3, _⟩ := h2; injection h3 with _ h4 _; exact h4.symm)
        injection hv with e1 _ e2
        subst e1; subst e2
        obtain rfl : n = j + 1 := by have h := hin.rd.1; simp only [List.length_cons] at h; omega
        obtain ⟨b, off, rfl, hbl, _, hcell⟩ := hin.rd.2.2 (by show 0 < j + 1; omega)
        have clo : w6.cell? ⟨b, off, none⟩ = some (.int .u64 lo') := by simpa using (hcell 0 (lo', hi') rfl).1
        have hn0 : (0 : Int) < ((j + 1 : Nat) : Int) := by omega
        have HIN := Lib.hid hin
        have HO6 := Lib.hid O6
        have HK6 := Lib.hid K6
        have HR6 := Lib.hid hr6
        clear hstep hcell hat hr5 hk5 hk6 hk56 hy0e hy1e hs6e O6 hin hr6
        cases hbad : s6.2 with
        | true =>
          rw [hbad] at hbc
          have HT : Hid (akS s = none) := Lib.hid (by rw [HE2.out, HST.out, if_pos (.inl hbad)]; rfl)
          clear hbad HST
          go_wp2_with fail
          go_ret3
          unfold AkPost
          rw [HT.out]
          exact ⟨rfl, HK6.out⟩
        | false =>
          rw [hbad] at hbc
          have hw1 : IntKind.u64.wrap (y0 + 1) = y0 + 1 := IntWalk.u64_in _ (by omega)
          rcases Int.lt_or_le (y0 + 1) lo' with h1 | h1
          · have hd1 : decide (lo' ≤ y0 + 1) = false := by simp; omega
            have hw2 : IntKind.u64.wrap (lo' - y0) = lo' - y0 := IntWalk.u64_in _ (by omega)
            have hw3 : IntKind.u64.wrap (lo' - y0 - 2) = lo' - y0 - 2 := IntWalk.u64_in _ (by omega)
            rcases Int.lt_or_le (lo' - y0 - 2) y1 with h2 | h2
            · have hd2 : decide (lo' - y0 - 2 < y1) = true := by simp; omega
              have HT : Hid (akS s = none) := Lib.hid (by rw [HE2.out, HST.out, if_pos (.inr (.inr h2))]; rfl)
              clear hbad HST
              go_wp2_with fail
              go_ret3
              unfold AkPost
              rw [HT.out]
              exact ⟨rfl, HK6.out⟩
            · have hd2 : decide (lo' - y0 - 2 < y1) = false := by simp; omega
              have HEQ : Hid (tot = akLoop (B - (j + 1)) s6 (lo' - y0 - 2 - y1) ((lo' - y0 - 2 - y1, lo' - y0 - 1) :: (lo', hi') :: rs)) := Lib.hid (by rw [HST.out, if_neg (by intro h; rcases h with h | h | h; rw [hbad] at h; cases h; omega; omega)])
              have hw4 : IntKind.u64.wrap (lo' - y0 - 1) = lo' - y0 - 1 := IntWalk.u64_in _ (by omega)
              have hw5 : IntKind.u64.wrap (lo' - y0 - 1 - 1) = lo' - y0 - 2 := by rw [IntWalk.u64_in _ (by omega)]; omega
              have hw6 : IntKind.u64.wrap (lo' - y0 - 2 - y1) = lo' - y0 - 2 - y1 := IntWalk.u64_in _ (by omega)
              have hwd : Wd [(lo' - y0 - 2 - y1, lo' - y0 - 1)] := fun r hr => by simp at hr; subst hr; exact ⟨by show (0:Int) ≤ lo' - y0 - 2 - y1; omega, by show lo' - y0 - 2 - y1 < _; omega, by show (0:Int) ≤ lo' - y0 - 1; omega, by show lo' - y0 - 1 < _; omega⟩
              have kal := (Kept.refl (fun _ => False) w6).alloc (.cells #[.int .u64 (lo' - y0 - 2 - y1), .int .u64 (lo' - y0 - 1)] 60)
              have HONE := Lib.hid (OwnR.one w6 w6.heap.size w6.heap.size (lo' - y0 - 2 - y1) (lo' - y0 - 1) rfl (Nat.le_refl _) hwd)
              have HRG := Lib.hid (HIN.out.rd.kept kal (fun _ _ h => h))
              have HR7 := Lib.hid (HR6.out.kept kal (fun h => h) (fun _ _ h => h))
              have HK7 := Lib.hid (HK6.out.alloc (.cells #[.int .u64 (lo' - y0 - 2 - y1), .int .u64 (lo' - y0 - 1)] 60))
              have hnl : j + 1 ≤ 1000000 := by omega
              clear hbad HST hwd kal
              go_wp2_with (at_builtin; refine wpList_append_rr rfl (.tmp 84) (.tmp 85) rfl w6.heap.size _ [(lo' - y0 - 2 - y1, lo' - y0 - 1)] (by rfl) HONE.out _ ⟨b, off, none⟩ (j + 1) c ((lo', hi') :: rs) (by rfl) HRG.out (by simp) hnl (by simp) ?_; intro v7 w7 hown7 hgr7; obtain ⟨A7, n7, c7, rfl⟩ := hown7.shape)
              have K7 := Kept.of_grown (S := fun k => k = w6.heap.size) hgr7 (fun k hk => .inl (by simpa [Value.ownBlock] using hk.symm))
              have HF : Hid (AkAt w p T P B tot (j + 1) A7 n7 c7 s6 (lo' - y0 - 2 - y1) (lo' - y0 - 1) ((lo', hi') :: rs) w7) := Lib.hid
                ⟨HR7.out.kept K7 (by omega) (fun b hb hk => by omega), hown7.base_ hs6, HK7.out.trans' K7 (fun j hj => .inr (by omega)), HEQ.out, by simp [hlen], by omega, by omega⟩
              clear K7 hown7 hgr7 HONE HRG HR7 HK7 HEQ hw1 hw2 hw3 hw4 hw5 hw6 clo hbc
              go_wp2_with fail
              go_roundw
              case rel => exact ⟨j + 1, _, _, _, _, _, _, _, rfl, by go_num, by omega, HF⟩
              case measure => simp [intOf] <;> omega
          · have hd1 : decide (lo' ≤ y0 + 1) = true := by simp; omega
            have HT : Hid (akS s = none) := Lib.hid (by rw [HE2.out, HST.out, if_pos (.inr (.inl h1))]; rfl)
            clear hbad HST
            go_wp2_with fail
            go_ret3
            unfold AkPost
            rw [HT.out]
            exact ⟨rfl, HK6.out⟩
      · obtain rfl : j = B := by omega
        have heq := hat.out.eq
        rw [Nat.sub_self, akLoop] at heq
        have HT : Hid (akS s = some ((lo', hi') :: rs, x1, s')) := Lib.hid (by rw [HE2.out, heq]; rfl)
        obtain ⟨A', c', hv, hin⟩ := hat.out.own.open_ n (by obtain ⟨_, _, h3, _⟩ := hat.out.own.open_ _ rfl; injection h3 with _ h4 _; exact h4.symm)
        injection hv with e1 _ e2
        subst e1; subst e2
        have hin2 : InR wr (fun b => w.heap.size ≤ b) ⟨A, n, c⟩ ((lo', hi') :: rs) := ⟨hin.rd.mono (fun b _ hb => (hat.out.own.block_lt b hb).1), hin.lc, hin.cm, hin.nil⟩
        have HIN := Lib.hid hin2
        have hrd := hat.out.rd.mono (P' := P) (fun b _ hb => hb.1)
        have hkp := hat.out.kp
        clear heq hin hin2 hat
        go_wp2_with fail
        go_ret3
        unfold AkPost
        rw [HT.out]
        exact ⟨⟨A, n, c⟩, rfl, HIN.out, hrd, hkp⟩
end
section
set_option linter.unusedVariables false
set_option linter.unusedSimpArgs false
open Go.RowKit
/-- On the way: the reader, the result's block, the frame's. -/
structure RdS (w w' : World) (p : Nat) (T : TypeId) (g2 g5 : Nat) (L5 : List Value) (s : St) : Prop where
  rd : Rdr w' p T (fun b => b < w.heap.size) s
  a2 : At w' g2 31 (frL (FN.zero 0) .nil .nil)
  a5 : At w' g5 31 L5
  bl : Below w.heap.size w w'
  pw : w.heap.size ≤ p
  g2w : w.heap.size ≤ g2
  g5w : w.heap.size ≤ g5
  p2 : p ≠ g2
  p5 : p ≠ g5
  g25 : g2 ≠ g5
section
variable {w w' w'' : World} {p : Nat} {T : TypeId} {g2 g5 : Nat} {L5 L6 : List Value} {s s' : St}
theorem RdS.step (h : RdS w w' p T g2 g5 L5 s) (hr : Rdr w'' p T (fun b => b < w.heap.size) s') (hk : Kept (· = p) w' w'') : RdS w w'' p T g2 g5 L5 s' :=
  ⟨hr, h.a2.kept hk (fun e => h.p2 e.symm), h.a5.kept hk (fun e => h.p5 e.symm), hk.below h.bl h.bl.size (fun j hj => by have := h.pw; omega), h.pw, h.g2w, h.g5w, h.p2, h.p5, h.g25⟩
theorem RdS.cell (h : RdS w w' p T g2 g5 L5 s) (j : Nat) (v : Value) : RdS w (w'.setCell ⟨g5, j, none⟩ v) p T g2 g5 (L5.set j v) s :=
  have hk : Kept (· = g5) w' (w'.setCell ⟨g5, j, none⟩ v) := (Kept.refl (· = g5) w').setAt j v
  ⟨h.rd.kept hk h.p5 (fun b hb e => by have := h.g5w; omega), h.a2.kept hk h.g25, h.a5.set j v, hk.below h.bl h.bl.size (fun j hj => by have := h.g5w; omega), h.pw, h.g2w, h.g5w, h.p2, h.p5, h.g25⟩
theorem RdS.below (h : RdS w w' p T g2 g5 L5 s) (hb : Below w'.heap.size w' w'') : RdS w w'' p T g2 g5 L5 s :=
  ⟨h.rd.kept (Kept.of_below hb (fun _ => False)) (fun h => h) (fun _ _ h => h), h.a2.below hb h.a2.lt, h.a5.below hb h.a5.lt, h.bl.trans (hb.mono h.bl.size), h.pw, h.g2w, h.g5w, h.p2, h.p5, h.g25⟩
theorem RdS.drew (h : RdS w w' p T g2 g5 L5 s) : RdS w w'.drew p T g2 g5 L5 s := h.below (belowN (Below.refl _ _) 1)
theorem RdS.fits {P : Nat → Prop} {m : FN} {d r : Sl} {ds : List Int} {rs : RS} (h : RdS w w' p T g2 g5 L5 s) (hw : m.wf) (hd : InD w' P d ds) (hr : InR w' P r rs) : Fits w' P m d r ds rs := ⟨hw, hd, hr⟩
theorem RdS.cast (h : RdS w w' p T g2 g5 L5 s) (e : L5 = L6) : RdS w w' p T g2 g5 L6 s := e ▸ h
theorem RdS.plt (h : RdS w w' p T g2 g5 L5 s) : p < w'.heap.size := by obtain ⟨_, _, _, h, _⟩ := h.rd; exact h.lt
theorem RdS.out (h : RdS w w' p T g2 g5 L5 s) (hk : Kept (· = g2) w' w'') : Below w.heap.size w w'' := hk.below h.bl h.bl.size (fun j hj => by have := h.g2w; omega)
theorem RdS.start (L : List Value) (hb : Below w.heap.size w w') (h2 : At w' w.heap.size 31 (frL (FN.zero 0) .nil .nil)) (hr : Rdr w' (w.heap.size + 1) T (fun b => b < w.heap.size) s) :
    RdS w (w'.alloc (.cells L.toArray 31)) (w.heap.size + 1) T w.heap.size w'.heap.size L s := by
  have hpl : w.heap.size + 1 < w'.heap.size := by obtain ⟨_, _, _, h, _⟩ := hr; exact h.lt
  have hbl : Below w'.heap.size w' (w'.alloc (.cells L.toArray 31)) := (Below.refl _ _).alloc (Nat.le_refl _) _
  exact ⟨hr.kept (Kept.of_below hbl (fun _ => False)) (fun h => h) (fun _ _ h => h), h2.alloc _, At.new _ _ _, hb.trans (hbl.mono hb.size), by omega, Nat.le_refl _, by omega, by omega, by omega, by omega⟩
end
theorem Rdr.row_cell {w : World} {p : Nat} {T : TypeId} {P : Nat → Prop} {s : St} (h : Rdr w p T P s) : ∃ A n c, w.cell? ⟨p, 0, none⟩ = some (.slice A n c) ∧ s.1.length = n ∧ n ≤ c ∧ c ≤ maxLen := by
  obtain ⟨A, n, c, h1, h2, h3, _, h5, _⟩ := h
  exact ⟨A, n, c, (h1.cell 0).trans rfl, h5.len, h2, h3⟩
def RDPost (w : World) (bs : List Int) (e : Ending) (w' : World) : Prop :=
  match readO (bs, false) with
  | none => e = .returned (.tuple #[frV (FN.zero 0) .nil .nil, .int .i64 0]) ∧ Below w.heap.size w w'
  | some x => ∃ d r, e = .returned (.tuple #[frV x.1 d r, .int .i64 ((bs.length : Int) - (x.2.2.2.1.length : Int))]) ∧ Fits w' (fun b => w.heap.size ≤ b) x.1 d r x.2.1 x.2.2.1 ∧ Below w.heap.size w w'
theorem RDPost.no {w w' : World} {bs : List Int} (h : readO (bs, false) = none) (hk : Below w.heap.size w w') : RDPost w bs (.returned (.tuple #[frV (FN.zero 0) .nil .nil, .int .i64 0])) w' := by
  unfold RDPost; rw [h]; exact ⟨rfl, hk⟩
theorem RDPost.yes {w w' : World} {bs bs' : List Int} {m : FN} {ds : List Int} {rs : RS} {d r : Sl} {n n' : Nat} {bad : Bool} (h : readO (bs, false) = some (m, ds, rs, (bs', bad))) (hn : bs.length = n) (hn' : bs'.length = n') (hf : Fits w' (fun b => w.heap.size ≤ b) m d r ds rs) (hk : Below w.heap.size w w') : RDPost w bs (.returned (.tuple #[frV m d r, .int .i64 ((n : Int) - (n' : Int))])) w' := by
  unfold RDPost; rw [h]; subst hn; subst hn'; exact ⟨d, r, rfl, hf, hk⟩
theorem rdr_start (A : Option Addr) (n c : Nat) (bs : List Int) (w : World) (hr : Rd w w.heap.size A n bs) (hnc : n ≤ c) (hcm : c ≤ maxLen) (hA : A = none → c = 0) :
    Rdr ((w.alloc (.cells (frL (FN.zero 0) .nil .nil).toArray 31)).alloc (.cells #[.slice A n c, .bool false] 93)) (w.heap.size + 1) 93 (fun b => b < w.heap.size) (bs, false) := by
  have hb : Below w.heap.size w ((w.alloc (.cells (frL (FN.zero 0) .nil .nil).toArray 31)).alloc (.cells #[.slice A n c, .bool false] 93)) := ((Below.refl _ _).alloc (Nat.le_refl _) _).alloc (by simp) _
  have hr2 := RdP.of_rd (hr.below hb) hb.size
  exact ⟨A, n, c, At.new_ _ _ _ (by simp), hnc, hcm, hA, hr2, fun h => by cases h⟩
end
end Go.Proofs.Ytkahndjflhgccaa
