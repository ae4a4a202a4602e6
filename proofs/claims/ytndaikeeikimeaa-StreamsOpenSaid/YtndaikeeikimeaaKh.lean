/-
  receiver.Receiver: onStream, onReset, On.
-/
import Derived.Test.YtndaikeeikimeaaMq17
import Derived.Test.YtndaikeeikimeaaMq9
import Derived.StillTailTactics
namespace Go.Proofs.Ytndaikeeikimeaa
set_option linter.unusedVariables false
set_option linter.unusedSimpArgs false
open Go.RowKit
/-- A frame that came by value, in a block of the call's own. -/
theorem fr_box8 (W : World) (m : FN) (d r : Sl) : ∃ (L : List Value) (W1 : World), frV m d r = .agg L.toArray ∧ L = frL m d r ∧ W.alloc (.cells L.toArray 34) = W1 ∧ Below W.heap.size W W1 ∧ W.heap.size < W1.heap.size ∧ At W1 W.heap.size 34 L ∧
    W1.cell? ⟨W.heap.size, 0, none⟩ = some (.int .i64 m.k) ∧ W1.cell? ⟨W.heap.size, 1, none⟩ = some (.int .u64 m.s) ∧ W1.cell? ⟨W.heap.size, 2, none⟩ = some (.int .u64 m.o) ∧ W1.cell? ⟨W.heap.size, 3, none⟩ = some (.slice d.A d.n d.c) ∧ W1.cell? ⟨W.heap.size, 4, none⟩ = some (.bool m.fin) ∧
    W1.cell? ⟨W.heap.size, 5, none⟩ = some (.int .u64 m.l) ∧ W1.cell? ⟨W.heap.size, 6, none⟩ = some (.int .u64 m.c) ∧ W1.cell? ⟨W.heap.size, 7, none⟩ = some (.int .u64 m.f) := by
  have hA := At.new W 34 (frL m d r)
  exact ⟨frL m d r, _, rfl, rfl, rfl, (Below.refl _ _).alloc (Nat.le_refl _) _, hA.lt, hA, by rw [hA.cell]; rfl, by rw [hA.cell]; rfl, by rw [hA.cell]; rfl, by rw [hA.cell]; rfl, by rw [hA.cell]; rfl, by rw [hA.cell]; rfl, by rw [hA.cell]; rfl, by rw [hA.cell]; rfl⟩
section
variable {w w' w1 : World} {base p pb : Nat} {O Ob Ob' : Nat → Prop} {X X' : QS}
theorem Qp.after (h : Qp w base p O X) (k : Below w.heap.size w w1) {r : Value} {e : Ending} (hP : QPost r base p O X' w1 e w') : QPost r base p O X' w e w' := QPost.after h k hP
/-- A refusal, or nothing to do. -/
theorem Qp.same (h : Qp w base p O X) (k : Below w.heap.size w w') (r : Value) : QPost r base p O X w (.returned r) w' := ⟨rfl, O, h.below k, Kept.of_below k O, fun j hj => .inl hj⟩
theorem addR_ok17 {S : BS} (h : S.ok) {off : Nat} {bs : List Int} (fin : Bool) (hb : Byt bs) : (addR S off bs fin).ok := by
  unfold addR
  split
  · rename_i he
    obtain ⟨e1, e2, e3⟩ := addE_zero he
    exact addS_ok h fin hb e1 e2 e3
  · exact h
/-- Behind Add: settle, and the cells that stay. -/
structure StO (w : World) (base p : Nat) (O : Nat → Prop) (X X2 : QS) (er : Int) (pb g off : Nat) (A : Option Addr) (n c : Nat) (fin : Bool) (W' : World) : Prop where
  st : Calls Try.prog 51 #[.pointer (some ⟨p, 0, none⟩)] W' fun e w' => e = .returned (.tuple #[]) ∧ QPost (.int .i64 er) base p O X2 w (.returned (.int .i64 er)) w'
  c4 : W'.cell? ⟨p, 4, none⟩ = some (.pointer (some ⟨pb, 0, none⟩))
  g2 : W'.cell? ⟨g, 2, none⟩ = some (.int .u64 off)
  g3 : W'.cell? ⟨g, 3, none⟩ = some (.slice A n c)
  g4 : W'.cell? ⟨g, 4, none⟩ = some (.bool fin)
set_option maxHeartbeats 8000000 in
set_option maxRecDepth 100000 in
theorem q_onStream (h : Qp w base p O X) (ho : X.ok) (hb : base ≤ w.heap.size) (m : FN) (d r : Sl) (off : Nat) (bs : List Int) (hmo : m.o = off) (hoff : off < 18446744073709551616) (hd : RdP w (fun b => ¬ O b) d.A d.n bs) (hdc : d.n ≤ d.c) (hdn : d.n < 9223372036854775808) :
    Calls Try.prog 46 #[.pointer (some ⟨p, 0, none⟩), frV m d r] w (QPost (.int .i64 (onSE X off bs.length m.fin)) base p O (onSX X off bs m.fin) w) := by
  obtain ⟨L, W1, hfv, hL, hW1, hB, hlt, hA, d0, d1, d2, d3, d4, d5, d6, d7⟩ := fr_box8 w m d r
  rw [hfv]
  rw [hmo] at d2
  have hlen := hd.len
  have h1 := h.below hB
  have hd1 : RdP W1 (fun b => ¬ O b) d.A d.n bs := (hd.kept (Kept.of_below hB (fun _ => False)) fun _ _ h => h)
  have c2 := h1.c2
  have c3 := h1.c3
  have c6 := h1.c6
  have HS := Lib.hid (fun W k r => h.same (w' := W) k r)
  have HB := Lib.hid hB
  have hlim : X.lim < 1099511700000 := by have := ho.lw; have := ho.win; have := ho.b.rh; have := ho.b.hm; omega
  obtain ⟨g, hg⟩ : ∃ g, w.heap.size = g := ⟨_, rfl⟩
  rw [hg] at d0 d1 d2 d3 d4 d5 d6 d7
  by_cases hc1 : X.lim < off
  · have hx : onSE X off bs.length m.fin = 23 := by unfold onSE; rw [if_pos (by omega)]
    have hx2 : onSX X off bs m.fin = X := by unfold onSX; rw [hx]; rfl
    rw [hx, hx2]
    have hz : (X.lim : Int) < (off : Int) := by omega
    clear h ho hb hd hlen h1 hd1 hx hx2 hL hA
    go_enter Try.func46, Try.ntmps46
    go_wp2_with fail
    (try rw [hg])
    (try rw [hW1])
    go_quiet (fail)
    go_wp2
    go_ret
    exact HS.out _ (belowN HB.out _) _
  have hz : ¬ (X.lim : Int) < (off : Int) := by omega
  obtain ⟨D, hD⟩ : ∃ D, D = X.lim - off := ⟨_, rfl⟩
  have hzl : ((X.lim : Int) - (off : Int)) = (D : Int) := by omega
  have hDb : D < 1099511700000 := by omega
  obtain ⟨A, n, c⟩ := d
  simp only at hd hdc hdn hlen hd1 d3
  by_cases hc2 : D < n
  · have hx : onSE X off bs.length m.fin = 23 := by unfold onSE; rw [if_pos (by omega)]
    have hx2 : onSX X off bs m.fin = X := by unfold onSX; rw [hx]; rfl
    rw [hx, hx2]
    have hz2 : (D : Int) < (n : Int) := by omega
    clear h ho hb hd hlen h1 hd1 hx hx2 hL hA hD hfv
    go_enter Try.func46, Try.ntmps46
    go_wp2_with fail
    (try rw [hg])
    (try rw [hW1])
    go_quiet (fail)
    go_wp2
    go_ret
    exact HS.out _ (belowN HB.out _) _
  have hz2 : ¬ (D : Int) < (n : Int) := by omega
  obtain ⟨E, hE⟩ : ∃ E, E = off + n := ⟨_, rfl⟩
  have hEz : (off : Int) + (n : Int) = (E : Int) := by omega
  have hEb : E < 1099511700000 := by omega
  have hcl : ¬ X.lim < off + bs.length := by omega
  by_cases h5 : 5 ≤ X.st
  · have hk : X.st = 5 ∨ X.st = 6 := by have := ho.st; omega
    have hx2 : onSX X off bs m.fin = X := by unfold onSX; rw [if_neg (by omega)]
    have hx : onSE X off bs.length m.fin = if X.fin < E ∨ (m.fin = true ∧ E ≠ X.fin) then 30 else 0 := by unfold onSE; rw [if_neg hcl, if_pos h5, hlen, hE]
    rw [hx2, hx]
    clear h ho hb hd h1 hd1 hx hx2 hL hA hD hfv hlen hE hcl
    obtain ⟨F, hF⟩ : ∃ F, X.fin = F := ⟨_, rfl⟩
    rw [hF] at c6 ⊢
    clear hF
    obtain ⟨fin, hfi⟩ : ∃ F, m.fin = F := ⟨_, rfl⟩
    rw [hfi] at d4 ⊢
    clear hfi
    rcases hk with hk | hk
    all_goals
      rw [hk] at c2
      clear hk
      rcases Nat.lt_trichotomy F E with hc | hc | hc
      · have hz3 : (F : Int) < (E : Int) := by omega
        rw [if_pos (.inl hc)]
        go_enter Try.func46, Try.ntmps46
        go_wp2_with fail
        (try rw [hg])
        (try rw [hW1])
        go_quiet (fail)
        go_wp2
        go_ret
        exact HS.out _ (belowN HB.out _) _
      · have hz3 : ¬ (F : Int) < (E : Int) := by omega
        have hz4 : ((E : Int) != (F : Int)) = false := by simp; omega
        rw [if_neg (by omega)]
        cases fin
        all_goals
          go_enter Try.func46, Try.ntmps46
          go_wp2_with fail
          (try rw [hg])
          (try rw [hW1])
          go_quiet (fail)
          go_wp2
          go_ret
          exact HS.out _ (belowN HB.out _) _
      · have hz3 : ¬ (F : Int) < (E : Int) := by omega
        have hz4 : ((E : Int) != (F : Int)) = true := by simp; omega
        cases fin
        · rw [if_neg (by simp; omega)]
          go_enter Try.func46, Try.ntmps46
          go_wp2_with fail
          (try rw [hg])
          (try rw [hW1])
          go_quiet (fail)
          go_wp2
          go_ret
          exact HS.out _ (belowN HB.out _) _
        · rw [if_pos (.inr ⟨rfl, by omega⟩)]
          go_enter Try.func46, Try.ntmps46
          go_wp2_with fail
          (try rw [hg])
          (try rw [hW1])
          go_quiet (fail)
          go_wp2
          go_ret
          exact HS.out _ (belowN HB.out _) _
  · have hk : X.st = 1 ∨ X.st = 2 ∨ X.st = 3 ∨ X.st = 4 := by have := ho.st; omega
    obtain ⟨pb, Ob, rfl, hl⟩ := h.live (by omega)
    have hl1 := hl.below hB
    have c4 := hl1.c4
    obtain ⟨fin, hfi⟩ : ∃ F, m.fin = F := ⟨_, rfl⟩
    rw [hfi] at d4 ⊢
    have hx : onSE X off bs.length fin = addE X.b off n fin := by unfold onSE; rw [if_neg hcl, if_neg h5, hlen]
    have HX2 : Hid (onSX X off bs fin = settleQ { X with b := addR X.b off bs fin }) := Lib.hid (by
      unfold onSX
      rw [hx]
      unfold addR
      rw [hlen]
      by_cases he : addE X.b off n fin = 0
      · rw [if_pos ⟨he, by omega⟩, if_pos he]
      · rw [if_neg (fun h => he h.1), if_neg he]
        exact (settle_id ho).symm)
    rw [hx]
    have HADD : Hid (∀ j, Calls Try.prog 50 #[.pointer (some ⟨pb, 0, none⟩), .int .u64 off, .slice A n c, .bool fin] (W1.drewN j) (BPost (.int .i64 (addE X.b off n fin)) base pb Ob (addR X.b off bs fin) (W1.drewN j))) := Lib.hid (fun j =>
      iadd_any base pb Ob X.b off A n c bs fin (W1.drewN j) (hl1.drewN j).bf ho.b (by have := hB.size; exact Nat.le_trans hb this) ((hd1.mono fun b _ hb e => hb (.inr e)).kept ((Kept.refl (fun _ => False) W1).drewN j) fun _ _ h => h) hdc hoff hdn)
    have HST : Hid (∀ j W' Ob', Bf W' base pb Ob' (addR X.b off bs fin) → Kept Ob (W1.drewN j) W' → (∀ k, Ob' k → Ob k ∨ (W1.drewN j).heap.size ≤ k) → StO w base p (pOb p Ob) X (onSX X off bs fin) (addE X.b off n fin) pb g off A n c fin W') := Lib.hid (by
      intro j W' Ob' h1 h2 h3
      have hs := (hl1.drewN j).step h1 h2 h3
      have hgA : At W' w.heap.size 34 L := (hA.drewN j).kept h2 fun e => by have := (hl.lt _ (.inr e)).2; omega
      rw [hL, hg] at hgA
      refine ⟨?_, by rw [hs.at_.cell]; rfl, by rw [hgA.cell]; show some (Value.int .u64 m.o) = _; rw [hmo], by rw [hgA.cell]; rfl, by rw [hgA.cell]; show some (Value.bool m.fin) = _; rw [hfi]⟩
      refine (q_settle hs (addR_ok17 ho.b fin hd.byt) hk).mono ?_
      rintro e w' ⟨he, hq, hk'⟩
      refine ⟨he, ?_⟩
      rw [HX2.out]
      refine (hl.qp (by omega)).after hB ?_
      have hX5 : X.st < 5 := by omega
      have h5' : (settleQ { X with b := addR X.b off bs fin }).st < 5 := by
        rw [settleQ_st]
        show (if X.st ≤ 2 then (if wholeB (addR X.b off bs fin) = true then 3 else if (addR X.b off bs fin).en = true then 2 else X.st) else X.st) < 5
        split
        · split
          · omega
          · split
            · omega
            · exact hX5
        · exact hX5
      have hkk : Kept (pOb p Ob) (W1.drewN j) w' := (h2.mono fun j hj => .inl (.inr hj)).trans' hk' fun j hj => .inl (.inl hj)
      have hpp := (hl1.drewN j).post hq h5' hkk h3 (.int .i64 (addE X.b off n fin))
      exact QPost.after (hl1.qp (by omega)) (belowN (Below.refl _ _) j) hpp)
    clear h ho hb hd hd1 hx hL hA hD hfv hlen hE hcl h1 hl hl1 HX2 hfi h5 hB
    rcases hk with hk | hk | hk | hk
    all_goals
      rw [hk] at c2
      clear hk
      go_enter Try.func46, Try.ntmps46
      go_wp2_with fail
      (try rw [hg])
      (try rw [hW1])
      go_quiet (fail)
      go_wp2_with fail
      obtain ⟨Y, hY⟩ : ∃ Y, (W1.drewN nq).drew = Y := ⟨_, rfl⟩
      have HADY := HADD.out (nq + 1)
      have HSTY := HST.out (nq + 1)
      change Calls _ _ _ (W1.drewN nq).drew (BPost _ _ _ _ _ (W1.drewN nq).drew) at HADY
      rw [hY] at HADY
      have HADY := Lib.hid HADY
      have HSTY : Hid (∀ W' Ob', Bf W' base pb Ob' (addR X.b off bs fin) → Kept Ob Y W' → (∀ k, Ob' k → Ob k ∨ Y.heap.size ≤ k) → StO w base p (pOb p Ob) X (onSX X off bs fin) (addE X.b off n fin) pb g off A n c fin W') := Lib.hid (by rw [← hY]; exact HSTY)
      clear HADD HST
      refine wp_region_held_drew (S := (fun W => W.cell? ⟨p, 4, none⟩ = some (.pointer (some ⟨pb, 0, none⟩)) ∧ W.cell? ⟨g, 2, none⟩ = some (.int .u64 off) ∧ W.cell? ⟨g, 3, none⟩ = some (.slice A n c) ∧ W.cell? ⟨g, 4, none⟩ = some (.bool fin))) (by kernel_rfl) (by exact ⟨c4, d2, d3, d4⟩) (fun hHeld => ?_)
      rw [hY] at hHeld ⊢
      clear hY
      refine tkq 0 (some 60) (v := ?_) rfl (Or.inl ⟨by rfl, ?_⟩) (by assumption) ?_
      rotate_left
      · intro w hSw; (try dsimp only at hSw); go_simp; first | done | (with_reducible rfl)
      simp only [Act.put, List.setIfInBounds_toArray, List.set_cons_zero, List.set_cons_succ]
      refine tkq 1 (some 61) (v := ?_) rfl (Or.inl ⟨by rfl, ?_⟩) (by assumption) ?_
      rotate_left
      · intro w hSw; (try dsimp only at hSw); go_simp; first | done | (with_reducible rfl)
      simp only [Act.put, List.setIfInBounds_toArray, List.set_cons_zero, List.set_cons_succ]
      refine tkq 2 (some 62) (v := ?_) rfl (Or.inl ⟨by rfl, ?_⟩) (by assumption) ?_
      rotate_left
      · intro w hSw; (try dsimp only at hSw); go_simp; first | done | (with_reducible rfl)
      simp only [Act.put, List.setIfInBounds_toArray, List.set_cons_zero, List.set_cons_succ]
      refine tkq 3 (some 63) (v := ?_) rfl (Or.inl ⟨by rfl, ?_⟩) (by assumption) ?_
      rotate_left
      · intro w hSw; (try dsimp only at hSw); go_simp; first | done | (with_reducible rfl)
      simp only [Act.put, List.setIfInBounds_toArray, List.set_cons_zero, List.set_cons_succ]
      refine tkq 4 (some 64) (v := ?_) rfl (Or.inl ⟨by rfl, ?_⟩) (by assumption) ?_
      rotate_left
      · intro w hSw; (try dsimp only at hSw); go_simp; first | done | (with_reducible rfl)
      simp only [Act.put, List.setIfInBounds_toArray, List.set_cons_zero, List.set_cons_succ]
      refine tkq 5 (some 65) (v := ?_) rfl (Or.inl ⟨by rfl, ?_⟩) (by assumption) ?_
      rotate_left
      · intro w hSw; (try dsimp only at hSw); go_simp; first | done | (with_reducible rfl)
      simp only [Act.put, List.setIfInBounds_toArray, List.set_cons_zero, List.set_cons_succ]
      refine tkq 6 (some 66) (v := ?_) rfl (Or.inl ⟨by rfl, ?_⟩) (by assumption) ?_
      rotate_left
      · intro w hSw; (try dsimp only at hSw); go_simp; first | done | (with_reducible rfl)
      simp only [Act.put, List.setIfInBounds_toArray, List.set_cons_zero, List.set_cons_succ]
      refine tkq 7 (some 67) (v := ?_) rfl (Or.inl ⟨by rfl, ?_⟩) (by assumption) ?_
      rotate_left
      · intro w hSw; (try dsimp only at hSw); go_simp; first | done | (with_reducible rfl)
      simp only [Act.put, List.setIfInBounds_toArray, List.set_cons_zero, List.set_cons_succ]
      refine tkq 8 (some 68) (v := ?_) rfl (Or.inl ⟨by rfl, ?_⟩) (by assumption) ?_
      rotate_left
      · intro w hSw; (try dsimp only at hSw); go_simp; first | done | (with_reducible rfl)
      simp only [Act.put, List.setIfInBounds_toArray, List.set_cons_zero, List.set_cons_succ]
      refine tkq 9 (some 69) (v := ?_) rfl (Or.inl ⟨by rfl, ?_⟩) (by assumption) ?_
      rotate_left
      · intro w hSw; (try dsimp only at hSw); go_simp; first | done | (with_reducible rfl)
      simp only [Act.put, List.setIfInBounds_toArray, List.set_cons_zero, List.set_cons_succ]
      refine wpAnyH_ready (rs := [10]) (by kernel_rfl) (by simp) ?_
      refine AllReadyH.cons rfl (fun K hK => ?_) AllReadyH.nil
      go_simp
      go_wp2_with (go_at_call 50; (with_reducible refine HADY.out.mono ?_); rintro e w2 ⟨rfl, Ob2, hb2, hk2, ho2⟩; have HS2 := Lib.hid (HSTY.out w2 Ob2 hb2 hk2 ho2); clear hb2 hk2 ho2)
      refine hK.out _ _ (⟨HS2.out.c4, HS2.out.g2, HS2.out.g3, HS2.out.g4⟩) (fun hHeld => ?_)
      clear hK K
      refine tkq 11 (some 6) (v := ?_) rfl (Or.inl ⟨by rfl, ?_⟩) (by assumption) ?_
      rotate_left
      · intro w hSw; (try dsimp only at hSw); go_simp; first | done | (with_reducible rfl)
      simp only [Act.put, List.setIfInBounds_toArray, List.set_cons_zero, List.set_cons_succ]
      refine wpAnyH_done (by kernel_rfl) ?_ _
      go_wp2_with (go_at_call 51; (with_reducible refine HS2.out.st.mono ?_); rintro e w3 ⟨rfl, hq3⟩; have HQ3 := Lib.hid hq3; clear hq3)
      go_ret
      exact HQ3.out
end
end Go.Proofs.Ytndaikeeikimeaa
