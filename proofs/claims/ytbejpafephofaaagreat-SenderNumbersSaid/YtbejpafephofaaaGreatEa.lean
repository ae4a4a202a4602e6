/-
  The document's buffer: Write.
-/
import Derived.Test.YtbejpafephofaaaGreatMq21
namespace Go.Proofs.YtbejpafephofaaaGreat
set_option linter.unusedVariables false
set_option linter.unusedSimpArgs false
open Go.RowKit
/-- What Write keeps while it puts byte by byte. -/
structure Wl (w W : World) (base q o : Nat) (T : TypeId) (L : List Value) (O : Nat → Prop) (S : OS) (d : List Int) (C A : List Bool) (i : Nat) (vb va vg : Value) : Prop where
  r : ∃ L', Rr W base q o T L' vb va vg (S.bs ++ d.take i) (C ++ List.replicate i false) (A ++ List.replicate i false) S.gn S.ov S.en S.ea S.el ∧ Samo o L L'
  n : ∀ j, rqO q vb va vg j → O j ∨ w.heap.size ≤ j
  k : Kept O w W
section
variable {w W Y : World} {base q o : Nat} {T : TypeId} {L : List Value} {O : Nat → Prop} {S : OS} {d : List Int} {C A : List Bool} {i : Nat} {vb va vg : Value}
theorem Wl.drewN (h : Wl w W base q o T L O S d C A i vb va vg) (n : Nat) : Wl w (W.drewN n) base q o T L O S d C A i vb va vg := by
  obtain ⟨L', h1, h2⟩ := h.r
  exact ⟨⟨L', h1.drewN n, h2⟩, h.n, h.k.drewN n⟩
theorem Wl.stl (h : Wl w Y base q o T L O S d C A i vb va vg) (zs : List (TypeId × Value)) : StL base Y Y [vb, va, vg] [vb, va, vg] [(5, (S.bs ++ d.take i).map (Value.int .u8)), (4, (C ++ List.replicate i false).map .bool), (4, (A ++ List.replicate i false).map .bool)] [none, none, none] zs := by
  obtain ⟨L', h1, _⟩ := h.r
  exact h1.stl zs
theorem us_rqO {b : Nat} (h : ∃ (i : Nat) (u : Value), ([vb, va, vg] : List Value)[i]? = some u ∧ u.ownBlock = some b) : ∃ i, (robs q vb va vg)[i + 1]? = some (some b) := by
  obtain ⟨i, u, hu, hb⟩ := h
  rcases i with _ | _ | _ | i
  · injection hu with hu; subst hu; exact ⟨0, congrArg some hb⟩
  · injection hu with hu; subst hu; exact ⟨1, congrArg some hb⟩
  · injection hu with hu; subst hu; exact ⟨2, congrArg some hb⟩
  · cases hu
theorem Wl.lay (h : Wl w Y base q o T L O S d C A i vb va vg) (k : Kept (fun b => ∃ (i : Nat) (u : Value), ([vb, va, vg] : List Value)[i]? = some u ∧ u.ownBlock = some b) Y W) (v0 v1 : Value) :
    (W.cell? ⟨q, o, none⟩ = some vb ∧ W.frozen? ⟨q, o, none⟩ = false ∧ W.cell? ⟨q, o + 1, none⟩ = some va ∧ W.cell? ⟨q, o + 2, none⟩ = some vg) ∧
    ((W.setCell ⟨q, o, none⟩ v0).cell? ⟨q, o + 1, none⟩ = some va ∧ (W.setCell ⟨q, o, none⟩ v0).frozen? ⟨q, o + 1, none⟩ = false) ∧
    (((W.setCell ⟨q, o, none⟩ v0).setCell ⟨q, o + 1, none⟩ v1).cell? ⟨q, o + 2, none⟩ = some vg ∧ ((W.setCell ⟨q, o, none⟩ v0).setCell ⟨q, o + 1, none⟩ v1).frozen? ⟨q, o + 2, none⟩ = false) := by
  obtain ⟨L', h1, _⟩ := h.r
  have aW := h1.at_.kept k fun e => by
    obtain ⟨i, hi⟩ := us_rqO (q := q) e
    have := h1.dis 0 _ q rfl hi
    omega
  have a1 := aW.set o v0
  have a2 := a1.set (o + 1) v1
  have c0 := h1.cl 0 vb rfl
  have c1 := h1.cl 1 va rfl
  have c2 := h1.cl 2 vg rfl
  rw [Nat.add_zero] at c0
  refine ⟨⟨by rw [aW.cell]; exact c0, aW.frozen _, by rw [aW.cell]; exact c1, by rw [aW.cell]; exact c2⟩, ⟨?_, a1.frozen _⟩, ?_, a2.frozen _⟩
  · rw [a1.cell, List.getElem?_set_ne (by omega)]
    exact c1
  · rw [a2.cell, List.getElem?_set_ne (by omega), List.getElem?_set_ne (by omega)]
    exact c2
theorem Wl.data (h : Wl w Y base q o T L O S d C A i vb va vg) {ab ao n : Nat} (hr : RdP w (fun b => ¬ O b) (some ⟨ab, ao, none⟩) n d) (hi : i < n) (k : Kept (fun b => ∃ (i : Nat) (u : Value), ([vb, va, vg] : List Value)[i]? = some u ∧ u.ownBlock = some b) Y W) :
    W.cell? ⟨ab, ao + i, none⟩ = some (.int .u8 (d.getD i 0)) := by
  have hk : Kept O w W := h.k.trans' k fun j hj => by
    obtain ⟨i, hi⟩ := us_rqO (q := q) hj
    exact h.n j (rqO_at hi)
  obtain ⟨b, o', e, _, hc⟩ := (hr.kept hk fun b hb => hb).1.2.2 (by omega)
  injection e with e
  injection e with e1 e2
  subst e1; subst e2
  exact hc i hi
theorem Wl.next (h : Wl w Y base q o T L O S d C A i vb va vg) (hi : i < d.length) (hd : Byt d) {v0 v1 v2 : Value} {ls : List (Option Nat)} {zs : List (TypeId × Value)}
    (hs : StL base Y W [vb, va, vg] [v0, v1, v2] [(5, (S.bs ++ d.take i).map (Value.int .u8) ++ [.int .u8 (d.getD i 0)]), (4, (C ++ List.replicate i false).map Value.bool ++ [.bool false]), (4, (A ++ List.replicate i false).map Value.bool ++ [.bool false])] ls zs) :
    Wl w (((W.setCell ⟨q, o, none⟩ v0).setCell ⟨q, o + 1, none⟩ v1).setCell ⟨q, o + 2, none⟩ v2) base q o T L O S d C A (i + 1) v0 v1 v2 := by
  obtain ⟨L', h1, h2⟩ := h.r
  obtain ⟨k1, k2, k3⟩ := h1.three (hd.getD i) hs
  have e1 : S.bs ++ d.take (i + 1) = S.bs ++ d.take i ++ [d.getD i 0] := by
    rw [List.append_assoc, List.take_add_one, List.getElem?_eq_getElem hi, List.getD_eq_getElem?_getD, List.getElem?_eq_getElem hi]
    rfl
  have e2 : ∀ F : List Bool, F ++ List.replicate (i + 1) false = F ++ List.replicate i false ++ [false] := fun F => by rw [List.append_assoc, List.replicate_succ']
  refine ⟨⟨_, by rw [e1, e2, e2]; exact k1, ((h2.set (i := 0) (by omega) v0).set (i := 1) (by omega) v1).set (i := 2) (by omega) v2⟩, fun j hj => ?_, h.k.trans' k2 h.n⟩
  rcases k3 j hj with e | e
  · exact h.n j e
  · exact .inr (by have := h.k.size; omega)
end
section
variable {w : World} {base q o : Nat} {T : TypeId} {L : List Value} {O : Nat → Prop} {S : OS}
set_option maxHeartbeats 40000000 in
set_option maxRecDepth 100000 in
theorem rwrite_any (h : Rs w base q o T L O S) (hok : S.ok) (hb : base ≤ w.heap.size) (hL : S.bs.length ≤ 900000) (A : Option Addr) (n c : Nat) (bs : List Int) (hr : RdP w (fun b => ¬ O b) A n bs) (hnc : n ≤ c) (hn : n < 9223372036854775808) :
    Calls Tryz.prog 32 #[.pointer (some ⟨q, o, none⟩), .slice A n c] w (RsPost (.int .i64 (writeN S n)) base q o T L O (writeO S bs) w) := by
  have HRM := Lib.hid (rroom_any h hok (by omega))
  obtain ⟨N, hN⟩ : ∃ N, N = writeN S n := ⟨_, rfl⟩
  have hmn : (if (roomO S : Int) < (n : Int) then (roomO S : Int) else (n : Int)) = (N : Int) := by
    rw [hN]; unfold writeN; split <;> omega
  have hmn2 : (if (n : Int) < (roomO S : Int) then (n : Int) else (roomO S : Int)) = (N : Int) := by
    rw [hN]; unfold writeN; split <;> omega
  have hNn : N ≤ n := by rw [hN]; exact Nat.min_le_left _ _
  have hNR : N ≤ roomO S := by rw [hN]; exact Nat.min_le_right _ _
  have hR : roomO S ≤ 2048 := by unfold roomO; split <;> omega
  obtain ⟨vb, va, vg, C, B, hO, hy, hf⟩ := h
  have hlen := hr.len
  have HEND : Hid (∀ W vb va vg, Wl w W base q o T L O S bs C B N vb va vg → RsPost (.int .i64 N) base q o T L O (writeO S bs) w (.returned (.int .i64 N)) W) := Lib.hid (fun W vb va vg hw => by
    obtain ⟨L', h1, h2⟩ := hw.r
    have hf2 := hf.write hok bs
    rw [hlen, ← hN] at hf2
    refine ⟨rfl, L', _, ⟨vb, va, vg, _, _, rfl, ?_, hf2⟩, h2, hw.k, hw.n⟩
    have e : (writeO S bs).bs = S.bs ++ bs.take N := by rw [hN]; unfold writeO; rw [hlen]
    rw [e]
    exact h1)
  have HST : Hid (∀ d, Wl w (w.drewN d) base q o T L O S bs C B 0 vb va vg) := Lib.hid (fun d => by
    refine ⟨⟨L, ?_, Samo.refl _ _⟩, fun j hj => .inl (by rw [hO]; exact hj), (Kept.refl _ _).drewN d⟩
    rw [List.take_zero, List.append_nil, List.replicate_zero, List.append_nil, List.append_nil]
    exact hy.drewN d)
  rw [← hN]
  have HLN := Lib.hid hf.len
  have hS := hL
  clear hO hy hf hok hN
  have HRD := Lib.hid hr
  have HBT := Lib.hid hr.byt
  have HL := Lib.hid hlen
  clear hr hlen
  generalize hS' : writeO S bs = S' at HEND ⊢
  clear hS'
  generalize hRO : roomO S = RO at *
  clear hRO
  go_enter Tryz.func32, Tryz.ntmps32
  go_upto_region 1 with fail
  go_cut [5] from 7 to 11 (fun s5 wx => s5 = .int .i64 N ∧ Hid (Wl w wx base q o T L O S bs C B 0 vb va vg))
  case first =>
    clear HEND
    rcases Nat.lt_or_ge RO n with hc | hc
    · obtain rfl : N = RO := by omega
      have hcz : (N : Int) < (n : Int) := by omega
      have hcz2 : ¬ (n : Int) < (N : Int) := by omega
      clear hmn hmn2
      go_wp2_with (go_at_call 31; (with_reducible refine HRM.out.mono ?_); rintro ez w1 ⟨rfl, d, hd⟩; have HD := Lib.hid hd; clear hd)
      go_meet
      exact ⟨rfl, Lib.hid (by rw [HD.out]; exact HST.out d)⟩
    · obtain rfl : N = n := by omega
      have hcz2 : ¬ (RO : Int) < (N : Int) := by omega
      clear hmn hmn2
      rcases Nat.lt_or_ge N RO with hc2 | hc2
      · have hcz : (N : Int) < (RO : Int) := by omega
        go_wp2_with (go_at_call 31; (with_reducible refine HRM.out.mono ?_); rintro ez w1 ⟨rfl, d, hd⟩; have HD := Lib.hid hd; clear hd)
        go_meet
        exact ⟨rfl, Lib.hid (by rw [HD.out]; exact HST.out d)⟩
      · obtain rfl : N = RO := by omega
        go_wp2_with (go_at_call 31; (with_reducible refine HRM.out.mono ?_); rintro ez w1 ⟨rfl, d, hd⟩; have HD := Lib.hid hd; clear hd)
        go_meet
        exact ⟨rfl, Lib.hid (by rw [HD.out]; exact HST.out d)⟩
  case rest =>
  obtain ⟨rfl, HW1⟩ := hcut
  generalize hwc : wc = w1 at *
  clear hwc HST HRM hmn hmn2
  go_wp2
  go_loopg [6] N (fun kx s6 wr => ∃ i : Nat, s6 = .int .i64 i ∧ i ≤ N ∧ N - i ≤ kx ∧ Hid (∃ vb va vg, Wl w wr base q o T L O S bs C B i vb va vg))
  case atStart => exact ⟨0, rfl, Nat.zero_le _, by omega, Lib.hid ⟨_, _, _, HW1.out⟩⟩
  case round =>
    clear HW1
    obtain ⟨i, rfl, hiN, hkx, HI⟩ := hrel
    rcases Nat.lt_or_ge i N with hi | hi
    · have hiz : (i : Int) < (N : Int) := by omega
      have hin : (i : Int) < (n : Int) := by omega
      have hms := Nat.lt_of_lt_of_le (show N - (i + 1) < N - i by omega) hkx
      obtain ⟨vb, va, vg, hw⟩ := HI.out
      obtain ⟨ab, ao, eA, _, _⟩ := HRD.out.1.2.2 (by omega)
      subst eA
      clear HI HEND
      obtain ⟨x, hx⟩ : ∃ x, x = bs.getD i 0 := ⟨_, rfl⟩
      have hwY : Wl w wr.drew base q o T L O S bs C B i vb va vg := hw.drewN 1
      have hbY : base ≤ wr.drew.heap.size := Nat.le_trans hb hwY.k.size
      generalize hY : wr.drew = Y at hwY hbY
      have HLD : Hid (∀ W, Kept (fun b => ∃ (i : Nat) (u : Value), ([vb, va, vg] : List Value)[i]? = some u ∧ u.ownBlock = some b) Y W → (fun W => W.cell? ⟨q, o, none⟩ = some vb ∧ W.cell? ⟨q, o + 1, none⟩ = some va ∧ W.cell? ⟨q, o + 2, none⟩ = some vg ∧ W.cell? ⟨ab, ao + i, none⟩ = some (.int .u8 x)) W) := Lib.hid (fun W hW => by
        obtain ⟨⟨h1, _, h2, h3⟩, _⟩ := hwY.lay hW vb vb
        exact ⟨h1, h2, h3, by rw [hx]; exact hwY.data HRD.out (by omega) hW⟩)
      have HLY := Lib.hid (fun W hW v0 v1 => hwY.lay (W := W) hW v0 v1)
      have hS0 := hwY.stl [(5, .int .u8 x), (4, .bool false), (4, .bool false)]
      have HNX : Hid (∀ (v0 v1 v2 : Value) (W : World) (ls : List (Option Nat)) (zs : List (TypeId × Value)), StL base Y W [vb, va, vg] [v0, v1, v2] [(5, (S.bs ++ bs.take i).map (Value.int .u8) ++ [.int .u8 x]), (4, (C ++ List.replicate i false).map Value.bool ++ [.bool false]), (4, (B ++ List.replicate i false).map Value.bool ++ [.bool false])] ls zs →
          Wl w (((W.setCell ⟨q, o, none⟩ v0).setCell ⟨q, o + 1, none⟩ v1).setCell ⟨q, o + 2, none⟩ v2) base q o T L O S bs C B (i + 1) v0 v1 v2) := Lib.hid (fun v0 v1 v2 W ls zs hs => by
        rw [hx] at hs
        exact hwY.next (by rw [HL.out]; omega) HBT.out hs)
      have HL0 : Hid (((S.bs ++ bs.take i).map (Value.int .u8)).length ≤ 2000000) := Lib.hid (by rw [List.length_map, List.length_append, List.length_take]; omega)
      have HL1 : Hid (((C ++ List.replicate i false).map Value.bool).length ≤ 2000000) := Lib.hid (by rw [List.length_map, List.length_append, List.length_replicate, HLN.out.1]; omega)
      have HL2 : Hid (((B ++ List.replicate i false).map Value.bool).length ≤ 2000000) := Lib.hid (by rw [List.length_map, List.length_append, List.length_replicate, HLN.out.2]; omega)
      generalize (S.bs ++ bs.take i).map (Value.int .u8) = X0 at hS0 HNX HL0
      generalize (C ++ List.replicate i false).map Value.bool = X1 at hS0 HNX HL1
      generalize (B ++ List.replicate i false).map Value.bool = X2 at hS0 HNX HL2
      have hHeld : (fun W => W.cell? ⟨q, o, none⟩ = some vb ∧ W.cell? ⟨q, o + 1, none⟩ = some va ∧ W.cell? ⟨q, o + 2, none⟩ = some vg ∧ W.cell? ⟨ab, ao + i, none⟩ = some (.int .u8 x)) Y := HLD.out _ (Kept.refl _ _)
      clear hw hwY hx HRD HBT HL HLN
      go_wp2
      refine wp_region_tail (S := (fun W => W.cell? ⟨q, o, none⟩ = some vb ∧ W.cell? ⟨q, o + 1, none⟩ = some va ∧ W.cell? ⟨q, o + 2, none⟩ = some vg ∧ W.cell? ⟨ab, ao + i, none⟩ = some (.int .u8 x))) (D := 27) (by kernel_rfl) ?_
      rw [hY]
      clear hY
      refine tail_pure 0 (some 17) (v := ?_) rfl (Or.inl ⟨by rfl, ?_⟩) (fun _ => hHeld) ?_
      rotate_left
      · intro w hSw; (try dsimp only at hSw); go_simp; first | done | (with_reducible rfl)
      simp only [Act.put, List.setIfInBounds_toArray, List.set_cons_zero, List.set_cons_succ]
      refine tail_pure 1 (some 18) (v := ?_) rfl (Or.inl ⟨by rfl, ?_⟩) (fun _ => hHeld) ?_
      rotate_left
      · intro w hSw; (try dsimp only at hSw); go_simp; first | done | (with_reducible rfl)
      simp only [Act.put, List.setIfInBounds_toArray, List.set_cons_zero, List.set_cons_succ]
      refine tail_pure 2 (some 19) (v := ?_) rfl (Or.inl ⟨by rfl, ?_⟩) (fun _ => hHeld) ?_
      rotate_left
      · intro w hSw; (try dsimp only at hSw); go_simp; first | done | (with_reducible rfl)
      simp only [Act.put, List.setIfInBounds_toArray, List.set_cons_zero, List.set_cons_succ]
      refine tail_pure 3 (some 20) (v := ?_) rfl (Or.inl ⟨by rfl, ?_⟩) (fun _ => hHeld) ?_
      rotate_left
      · intro w hSw; (try dsimp only at hSw); go_simp; first | done | (with_reducible rfl)
      simp only [Act.put, List.setIfInBounds_toArray, List.set_cons_zero, List.set_cons_succ]
      refine tail_pure 4 (some 21) (v := ?_) rfl (Or.inl ⟨by rfl, ?_⟩) (fun _ => hHeld) ?_
      rotate_left
      · intro w hSw; (try dsimp only at hSw); go_simp; first | done | (with_reducible rfl)
      simp only [Act.put, List.setIfInBounds_toArray, List.set_cons_zero, List.set_cons_succ]
      refine tail_pure 5 (some 22) (v := ?_) rfl (Or.inl ⟨by rfl, ?_⟩) (fun _ => hHeld) ?_
      rotate_left
      · intro w hSw; (try dsimp only at hSw); go_simp; first | done | (with_reducible rfl)
      simp only [Act.put, List.setIfInBounds_toArray, List.set_cons_zero, List.set_cons_succ]
      refine tail_load 6 (some 23) [12, 27] (v := ?_) rfl (Or.inl ⟨by rfl, ?_⟩) hHeld ?_
      rotate_left
      · intro w hSw; (try dsimp only at hSw); go_simp; first | done | (with_reducible rfl)
      simp only [Act.put, List.setIfInBounds_toArray, List.set_cons_zero, List.set_cons_succ]
      refine tail_pure 7 (some 24) (v := ?_) rfl (Or.inl ⟨by rfl, ?_⟩) (fun _ => hHeld) ?_
      rotate_left
      · intro w hSw; (try dsimp only at hSw); go_simp; first | done | (with_reducible rfl)
      simp only [Act.put, List.setIfInBounds_toArray, List.set_cons_zero, List.set_cons_succ]
      refine tail_pure 8 (some 25) (v := ?_) rfl (Or.inl ⟨by rfl, ?_⟩) (fun _ => hHeld) ?_
      rotate_left
      · intro w hSw; (try dsimp only at hSw); go_simp; first | done | (with_reducible rfl)
      simp only [Act.put, List.setIfInBounds_toArray, List.set_cons_zero, List.set_cons_succ]
      refine tail_pure 9 (some 26) (v := ?_) rfl (Or.inl ⟨by rfl, ?_⟩) (fun _ => hHeld) ?_
      rotate_left
      · intro w hSw; (try dsimp only at hSw); go_simp; first | done | (with_reducible rfl)
      simp only [Act.put, List.setIfInBounds_toArray, List.set_cons_zero, List.set_cons_succ]
      refine tail_load 10 (some 27) [11, 12, 27] (v := ?_) rfl (Or.inl ⟨by rfl, ?_⟩) hHeld ?_
      rotate_left
      · intro w hSw; (try dsimp only at hSw); go_simp; first | done | (with_reducible rfl)
      simp only [Act.put, List.setIfInBounds_toArray, List.set_cons_zero, List.set_cons_succ]
      refine tail_pure 13 (some 30) (v := ?_) rfl (Or.inl ⟨by rfl, ?_⟩) (fun _ => hHeld) ?_
      rotate_left
      · intro w hSw; (try dsimp only at hSw); go_simp; first | done | (with_reducible rfl)
      simp only [Act.put, List.setIfInBounds_toArray, List.set_cons_zero, List.set_cons_succ]
      refine tail_pure 14 (some 31) (v := ?_) rfl (Or.inl ⟨by rfl, ?_⟩) (fun _ => hHeld) ?_
      rotate_left
      · intro w hSw; (try dsimp only at hSw); go_simp; first | done | (with_reducible rfl)
      simp only [Act.put, List.setIfInBounds_toArray, List.set_cons_zero, List.set_cons_succ]
      refine tail_pure 15 (some 32) (v := ?_) rfl (Or.inl ⟨by rfl, ?_⟩) (fun _ => hHeld) ?_
      rotate_left
      · intro w hSw; (try dsimp only at hSw); go_simp; first | done | (with_reducible rfl)
      simp only [Act.put, List.setIfInBounds_toArray, List.set_cons_zero, List.set_cons_succ]
      refine tail_load 16 (some 33) [18, 24, 27] (v := ?_) rfl (Or.inl ⟨by rfl, ?_⟩) hHeld ?_
      rotate_left
      · intro w hSw; (try dsimp only at hSw); go_simp; first | done | (with_reducible rfl)
      simp only [Act.put, List.setIfInBounds_toArray, List.set_cons_zero, List.set_cons_succ]
      refine tail_pure 19 (some 36) (v := ?_) rfl (Or.inl ⟨by rfl, ?_⟩) (fun _ => hHeld) ?_
      rotate_left
      · intro w hSw; (try dsimp only at hSw); go_simp; first | done | (with_reducible rfl)
      simp only [Act.put, List.setIfInBounds_toArray, List.set_cons_zero, List.set_cons_succ]
      refine tail_pure 20 (some 37) (v := ?_) rfl (Or.inl ⟨by rfl, ?_⟩) (fun _ => hHeld) ?_
      rotate_left
      · intro w hSw; (try dsimp only at hSw); go_simp; first | done | (with_reducible rfl)
      simp only [Act.put, List.setIfInBounds_toArray, List.set_cons_zero, List.set_cons_succ]
      refine tail_pure 21 (some 38) (v := ?_) rfl (Or.inl ⟨by rfl, ?_⟩) (fun _ => hHeld) ?_
      rotate_left
      · intro w hSw; (try dsimp only at hSw); go_simp; first | done | (with_reducible rfl)
      simp only [Act.put, List.setIfInBounds_toArray, List.set_cons_zero, List.set_cons_succ]
      refine tail_load 22 (some 39) [24, 27] (v := ?_) rfl (Or.inl ⟨by rfl, ?_⟩) hHeld ?_
      rotate_left
      · intro w hSw; (try dsimp only at hSw); go_simp; first | done | (with_reducible rfl)
      simp only [Act.put, List.setIfInBounds_toArray, List.set_cons_zero, List.set_cons_succ]
      refine wpTail.ready (rs := [11, 17, 23]) (by kernel_rfl) (by simp) ?_
      refine AllTail.cons rfl (fun K hK => ?_) (AllTail.cons rfl (fun K hK => ?_) (AllTail.cons rfl (fun K hK => ?_) (AllTail.nil)))
      · go_simp
        go_wp2_with (fail)
        have hS1 := hS0.build 0 (5, .int .u8 x) rfl rfl
        simp only [List.set_cons_zero, List.set_cons_succ] at hS1
        obtain ⟨z1, hz1⟩ : ∃ g, Y.heap.size = g := ⟨_, rfl⟩
        rw [hz1] at hS1 ⊢
        generalize hW1 : Y.alloc (.cells #[.int .u8 x] 5) = W1 at hS1 ⊢
        clear hW1 hz1
        refine hK.out _ _ (HLD.out _ hS1.k) (fun hHeld => ?_)
        clear hK K
        refine wpTail.ready (rs := [12, 17, 23]) (by kernel_rfl) (by simp) ?_
        refine AllTail.cons rfl (fun K hK => ?_) (AllTail.cons rfl (fun K hK => ?_) (AllTail.cons rfl (fun K hK => ?_) (AllTail.nil)))
        · refine hS1.app 0 o8 (Nat.le_trans hbY hS1.k.size) rfl (.tmp 23) (.tmp 28) rfl _ _ _ _ rfl rfl rfl rfl rfl (by simp [Act.eval, Act.put]) (by simp [Act.eval, Act.put]) HL0.out ?_
          intro A2 c2 W2 hS2
          simp only [List.set_cons_zero, List.set_cons_succ] at hS2
          refine hK.out _ _ (HLD.out _ hS2.k) (fun hHeld => ?_)
          clear hK K
          refine wpTail.ready (rs := [17, 23]) (by kernel_rfl) (by simp) ?_
          refine AllTail.cons rfl (fun K hK => ?_) (AllTail.cons rfl (fun K hK => ?_) (AllTail.nil))
          · go_simp
            go_wp2_with (fail)
            have hS3 := hS2.build 1 (4, .bool false) rfl rfl
            simp only [List.set_cons_zero, List.set_cons_succ] at hS3
            obtain ⟨z3, hz3⟩ : ∃ g, W2.heap.size = g := ⟨_, rfl⟩
            rw [hz3] at hS3 ⊢
            generalize hW3 : W2.alloc (.cells #[.bool false] 4) = W3 at hS3 ⊢
            clear hW3 hz3
            refine hK.out _ _ (HLD.out _ hS3.k) (fun hHeld => ?_)
            clear hK K
            refine wpTail.ready (rs := [18, 23]) (by kernel_rfl) (by simp) ?_
            refine AllTail.cons rfl (fun K hK => ?_) (AllTail.cons rfl (fun K hK => ?_) (AllTail.nil))
            · refine hS3.app 1 oBd (Nat.le_trans hbY hS3.k.size) rfl (.tmp 33) (.tmp 34) rfl _ _ _ _ rfl rfl rfl rfl rfl (by simp [Act.eval, Act.put]) (by simp [Act.eval, Act.put]) HL1.out ?_
              intro A4 c4 W4 hS4
              simp only [List.set_cons_zero, List.set_cons_succ] at hS4
              refine hK.out _ _ (HLD.out _ hS4.k) (fun hHeld => ?_)
              clear hK K
              refine wpTail.ready (rs := [23]) (by kernel_rfl) (by simp) ?_
              refine AllTail.cons rfl (fun K hK => ?_) (AllTail.nil)
              · go_simp
                go_wp2_with (fail)
                have hS5 := hS4.build 2 (4, .bool false) rfl rfl
                simp only [List.set_cons_zero, List.set_cons_succ] at hS5
                obtain ⟨z5, hz5⟩ : ∃ g, W4.heap.size = g := ⟨_, rfl⟩
                rw [hz5] at hS5 ⊢
                generalize hW5 : W4.alloc (.cells #[.bool false] 4) = W5 at hS5 ⊢
                clear hW5 hz5
                refine hK.out _ _ (HLD.out _ hS5.k) (fun hHeld => ?_)
                clear hK K
                refine wpTail.ready (rs := [24]) (by kernel_rfl) (by simp) ?_
                refine AllTail.cons rfl (fun K hK => ?_) (AllTail.nil)
                · refine hS5.app 2 oBd (Nat.le_trans hbY hS5.k.size) rfl (.tmp 39) (.tmp 40) rfl _ _ _ _ rfl rfl rfl rfl rfl (by simp [Act.eval, Act.put]) (by simp [Act.eval, Act.put]) HL2.out ?_
                  intro A6 c6 W6 hS6
                  simp only [List.set_cons_zero, List.set_cons_succ] at hS6
                  refine hK.out _ _ (HLD.out _ hS6.k) (fun hHeld => ?_)
                  clear hK K
                  refine tail_pure 25 (some 42) (v := ?_) rfl (Or.inl ⟨by rfl, ?_⟩) (fun _ => hHeld) ?_
                  rotate_left
                  · intro w hSw; (try dsimp only at hSw); go_simp; first | done | (with_reducible rfl)
                  simp only [Act.put, List.setIfInBounds_toArray, List.set_cons_zero, List.set_cons_succ]
                  refine tail_pure 26 (some 43) (v := ?_) rfl (Or.inl ⟨by rfl, ?_⟩) (fun _ => hHeld) ?_
                  rotate_left
                  · intro w hSw; (try dsimp only at hSw); go_simp; first | done | (with_reducible rfl)
                  simp only [Act.put, List.setIfInBounds_toArray, List.set_cons_zero, List.set_cons_succ]
                  refine wpTail.ready (rs := [27]) (by kernel_rfl) (by simp) ?_
                  refine AllTail.late rfl (by kernel_rfl) (fun K hK => ?_) AllTail.nil
                  have hl6 := HLY.out _ hS6.k (.slice A2 (X0.length + 1) c2) (.slice A4 (X1.length + 1) c4)
                  have l0 := hl6.1.1
                  have l1 := hl6.1.2.1
                  have l2 := hl6.2.1.1
                  have l3 := hl6.2.1.2
                  have l4 := hl6.2.2.1
                  have l5 := hl6.2.2.2
                  clear hl6
                  go_simp
                  go_wp2_with (fail)
                  refine hK.out _ _ ?_
                  clear hK K
                  refine tail_late 28 (some 44) (v := ?_) rfl (Or.inl ⟨by rfl, ?_⟩) ?_
                  rotate_left
                  · intro w hSw; (try dsimp only at hSw); go_simp; first | done | (with_reducible rfl)
                  simp only [Act.put, List.setIfInBounds_toArray, List.set_cons_zero, List.set_cons_succ]
                  refine tail_late 29 (some 45) (v := ?_) rfl (Or.inl ⟨by rfl, ?_⟩) ?_
                  rotate_left
                  · intro w hSw; (try dsimp only at hSw); go_simp; first | done | (with_reducible rfl)
                  simp only [Act.put, List.setIfInBounds_toArray, List.set_cons_zero, List.set_cons_succ]
                  refine wpTail.ready (rs := [30]) (by kernel_rfl) (by simp) ?_
                  refine AllTail.late rfl (by kernel_rfl) (fun K hK => ?_) AllTail.nil
                  go_simp
                  go_wp2_with (fail)
                  refine hK.out _ _ ?_
                  clear hK K
                  refine tail_late 31 (some 46) (v := ?_) rfl (Or.inl ⟨by rfl, ?_⟩) ?_
                  rotate_left
                  · intro w hSw; (try dsimp only at hSw); go_simp; first | done | (with_reducible rfl)
                  simp only [Act.put, List.setIfInBounds_toArray, List.set_cons_zero, List.set_cons_succ]
                  refine tail_late 32 (some 47) (v := ?_) rfl (Or.inl ⟨by rfl, ?_⟩) ?_
                  rotate_left
                  · intro w hSw; (try dsimp only at hSw); go_simp; first | done | (with_reducible rfl)
                  simp only [Act.put, List.setIfInBounds_toArray, List.set_cons_zero, List.set_cons_succ]
                  refine wpTail.ready (rs := [33]) (by kernel_rfl) (by simp) ?_
                  refine AllTail.late rfl (by kernel_rfl) (fun K hK => ?_) AllTail.nil
                  go_simp
                  go_wp2_with (fail)
                  refine hK.out _ _ ?_
                  clear hK K
                  refine wpTail.done (by kernel_rfl) ?_ _
                  have HX := Lib.hid (HNX.out _ _ _ _ _ _ hS6)
                  clear l0 l1 l2 l3 l4 l5
                  go_wp2_with fail
                  go_roundg (N - (i + 1))
                  case measure => exact hms
                  case rel => exact ⟨i + 1, by simp, by omega, Nat.le_refl _, Lib.hid ⟨_, _, _, HX.out⟩⟩
            · go_simp
              go_wp2_with (fail)
              have hS7 := hS3.build 2 (4, .bool false) rfl rfl
              simp only [List.set_cons_zero, List.set_cons_succ] at hS7
              obtain ⟨z7, hz7⟩ : ∃ g, W3.heap.size = g := ⟨_, rfl⟩
              rw [hz7] at hS7 ⊢
              generalize hW7 : W3.alloc (.cells #[.bool false] 4) = W7 at hS7 ⊢
              clear hW7 hz7
              refine hK.out _ _ (HLD.out _ hS7.k) (fun hHeld => ?_)
              clear hK K
              refine wpTail.ready (rs := [18]) (by kernel_rfl) (by simp) ?_
              refine AllTail.cons rfl (fun K hK => ?_) (AllTail.nil)
              · refine hS7.app 1 oBd (Nat.le_trans hbY hS7.k.size) rfl (.tmp 33) (.tmp 34) rfl _ _ _ _ rfl rfl rfl rfl rfl (by simp [Act.eval, Act.put]) (by simp [Act.eval, Act.put]) HL1.out ?_
                intro A8 c8 W8 hS8
                simp only [List.set_cons_zero, List.set_cons_succ] at hS8
                refine hK.out _ _ (HLD.out _ hS8.k) (fun hHeld => ?_)
                clear hK K
                refine wpTail.ready (rs := [24]) (by kernel_rfl) (by simp) ?_
                refine AllTail.cons rfl (fun K hK => ?_) (AllTail.nil)
                · refine hS8.app 2 oBd (Nat.le_trans hbY hS8.k.size) rfl (.tmp 39) (.tmp 40) rfl _ _ _ _ rfl rfl rfl rfl rfl (by simp [Act.eval, Act.put]) (by simp [Act.eval, Act.put]) HL2.out ?_
                  intro A9 c9 W9 hS9
                  simp only [List.set_cons_zero, List.set_cons_succ] at hS9
                  refine hK.out _ _ (HLD.out _ hS9.k) (fun hHeld => ?_)
                  clear hK K
                  refine tail_pure 25 (some 42) (v := ?_) rfl (Or.inl ⟨by rfl, ?_⟩) (fun _ => hHeld) ?_
                  rotate_left
                  · intro w hSw; (try dsimp only at hSw); go_simp; first | done | (with_reducible rfl)
                  simp only [Act.put, List.setIfInBounds_toArray, List.set_cons_zero, List.set_cons_succ]
                  refine tail_pure 26 (some 43) (v := ?_) rfl (Or.inl ⟨by rfl, ?_⟩) (fun _ => hHeld) ?_
                  rotate_left
                  · intro w hSw; (try dsimp only at hSw); go_simp; first | done | (with_reducible rfl)
                  simp only [Act.put, List.setIfInBounds_toArray, List.set_cons_zero, List.set_cons_succ]
                  refine wpTail.ready (rs := [27]) (by kernel_rfl) (by simp) ?_
                  refine AllTail.late rfl (by kernel_rfl) (fun K hK => ?_) AllTail.nil
                  have hl6 := HLY.out _ hS9.k (.slice A2 (X0.length + 1) c2) (.slice A8 (X1.length + 1) c8)
                  have l0 := hl6.1.1
                  have l1 := hl6.1.2.1
                  have l2 := hl6.2.1.1
                  have l3 := hl6.2.1.2
                  have l4 := hl6.2.2.1
                  have l5 := hl6.2.2.2
                  clear hl6
                  go_simp
                  go_wp2_with (fail)
                  refine hK.out _ _ ?_
                  clear hK K
                  refine tail_late 28 (some 44) (v := ?_) rfl (Or.inl ⟨by rfl, ?_⟩) ?_
                  rotate_left
                  · intro w hSw; (try dsimp only at hSw); go_simp; first | done | (with_reducible rfl)
                  simp only [Act.put, List.setIfInBounds_toArray, List.set_cons_zero, List.set_cons_succ]
                  refine tail_late 29 (some 45) (v := ?_) rfl (Or.inl ⟨by rfl, ?_⟩) ?_
                  rotate_left
                  · intro w hSw; (try dsimp only at hSw); go_simp; first | done | (with_reducible rfl)
                  simp only [Act.put, List.setIfInBounds_toArray, List.set_cons_zero, List.set_cons_succ]
                  refine wpTail.ready (rs := [30]) (by kernel_rfl) (by simp) ?_
                  refine AllTail.late rfl (by kernel_rfl) (fun K hK => ?_) AllTail.nil
                  go_simp
                  go_wp2_with (fail)
                  refine hK.out _ _ ?_
                  clear hK K
                  refine tail_late 31 (some 46) (v := ?_) rfl (Or.inl ⟨by rfl, ?_⟩) ?_
                  rotate_left
                  · intro w hSw; (try dsimp only at hSw); go_simp; first | done | (with_reducible rfl)
                  simp only [Act.put, List.setIfInBounds_toArray, List.set_cons_zero, List.set_cons_succ]
                  refine tail_late 32 (some 47) (v := ?_) rfl (Or.inl ⟨by rfl, ?_⟩) ?_
                  rotate_left
                  · intro w hSw; (try dsimp only at hSw); go_simp; first | done | (with_reducible rfl)
                  simp only [Act.put, List.setIfInBounds_toArray, List.set_cons_zero, List.set_cons_succ]
                  refine wpTail.ready (rs := [33]) (by kernel_rfl) (by simp) ?_
                  refine AllTail.late rfl (by kernel_rfl) (fun K hK => ?_) AllTail.nil
                  go_simp
                  go_wp2_with (fail)
                  refine hK.out _ _ ?_
                  clear hK K
                  refine wpTail.done (by kernel_rfl) ?_ _
                  have HX := Lib.hid (HNX.out _ _ _ _ _ _ hS9)
                  clear l0 l1 l2 l3 l4 l5
                  go_wp2_with fail
                  go_roundg (N - (i + 1))
                  case measure => exact hms
                  case rel => exact ⟨i + 1, by simp, by omega, Nat.le_refl _, Lib.hid ⟨_, _, _, HX.out⟩⟩
          · go_simp
            go_wp2_with (fail)
            have hS10 := hS2.build 2 (4, .bool false) rfl rfl
            simp only [List.set_cons_zero, List.set_cons_succ] at hS10
            obtain ⟨z10, hz10⟩ : ∃ g, W2.heap.size = g := ⟨_, rfl⟩
            rw [hz10] at hS10 ⊢
            generalize hW10 : W2.alloc (.cells #[.bool false] 4) = W10 at hS10 ⊢
            clear hW10 hz10
            refine hK.out _ _ (HLD.out _ hS10.k) (fun hHeld => ?_)
            clear hK K
            refine wpTail.ready (rs := [17]) (by kernel_rfl) (by simp) ?_
            refine AllTail.cons rfl (fun K hK => ?_) (AllTail.nil)
            · go_simp
              go_wp2_with (fail)
              have hS11 := hS10.build 1 (4, .bool false) rfl rfl
              simp only [List.set_cons_zero, List.set_cons_succ] at hS11
              obtain ⟨z11, hz11⟩ : ∃ g, W10.heap.size = g := ⟨_, rfl⟩
              rw [hz11] at hS11 ⊢
              generalize hW11 : W10.alloc (.cells #[.bool false] 4) = W11 at hS11 ⊢
              clear hW11 hz11
              refine hK.out _ _ (HLD.out _ hS11.k) (fun hHeld => ?_)
              clear hK K
              refine wpTail.ready (rs := [18]) (by kernel_rfl) (by simp) ?_
              refine AllTail.cons rfl (fun K hK => ?_) (AllTail.nil)
              · refine hS11.app 1 oBd (Nat.le_trans hbY hS11.k.size) rfl (.tmp 33) (.tmp 34) rfl _ _ _ _ rfl rfl rfl rfl rfl (by simp [Act.eval, Act.put]) (by simp [Act.eval, Act.put]) HL1.out ?_
                intro A12 c12 W12 hS12
                simp only [List.set_cons_zero, List.set_cons_succ] at hS12
                refine hK.out _ _ (HLD.out _ hS12.k) (fun hHeld => ?_)
                clear hK K
                refine wpTail.ready (rs := [24]) (by kernel_rfl) (by simp) ?_
                refine AllTail.cons rfl (fun K hK => ?_) (AllTail.nil)
                · refine hS12.app 2 oBd (Nat.le_trans hbY hS12.k.size) rfl (.tmp 39) (.tmp 40) rfl _ _ _ _ rfl rfl rfl rfl rfl (by simp [Act.eval, Act.put]) (by simp [Act.eval, Act.put]) HL2.out ?_
                  intro A13 c13 W13 hS13
                  simp only [List.set_cons_zero, List.set_cons_succ] at hS13
                  refine hK.out _ _ (HLD.out _ hS13.k) (fun hHeld => ?_)
                  clear hK K
                  refine tail_pure 25 (some 42) (v := ?_) rfl (Or.inl ⟨by rfl, ?_⟩) (fun _ => hHeld) ?_
                  rotate_left
                  · intro w hSw; (try dsimp only at hSw); go_simp; first | done | (with_reducible rfl)
                  simp only [Act.put, List.setIfInBounds_toArray, List.set_cons_zero, List.set_cons_succ]
                  refine tail_pure 26 (some 43) (v := ?_) rfl (Or.inl ⟨by rfl, ?_⟩) (fun _ => hHeld) ?_
                  rotate_left
                  · intro w hSw; (try dsimp only at hSw); go_simp; first | done | (with_reducible rfl)
                  simp only [Act.put, List.setIfInBounds_toArray, List.set_cons_zero, List.set_cons_succ]
                  refine wpTail.ready (rs := [27]) (by kernel_rfl) (by simp) ?_
                  refine AllTail.late rfl (by kernel_rfl) (fun K hK => ?_) AllTail.nil
                  have hl6 := HLY.out _ hS13.k (.slice A2 (X0.length + 1) c2) (.slice A12 (X1.length + 1) c12)
                  have l0 := hl6.1.1
                  have l1 := hl6.1.2.1
                  have l2 := hl6.2.1.1
                  have l3 := hl6.2.1.2
                  have l4 := hl6.2.2.1
                  have l5 := hl6.2.2.2
                  clear hl6
                  go_simp
                  go_wp2_with (fail)
                  refine hK.out _ _ ?_
                  clear hK K
                  refine tail_late 28 (some 44) (v := ?_) rfl (Or.inl ⟨by rfl, ?_⟩) ?_
                  rotate_left
                  · intro w hSw; (try dsimp only at hSw); go_simp; first | done | (with_reducible rfl)
                  simp only [Act.put, List.setIfInBounds_toArray, List.set_cons_zero, List.set_cons_succ]
                  refine tail_late 29 (some 45) (v := ?_) rfl (Or.inl ⟨by rfl, ?_⟩) ?_
                  rotate_left
                  · intro w hSw; (try dsimp only at hSw); go_simp; first | done | (with_reducible rfl)
                  simp only [Act.put, List.setIfInBounds_toArray, List.set_cons_zero, List.set_cons_succ]
                  refine wpTail.ready (rs := [30]) (by kernel_rfl) (by simp) ?_
                  refine AllTail.late rfl (by kernel_rfl) (fun K hK => ?_) AllTail.nil
                  go_simp
                  go_wp2_with (fail)
                  refine hK.out _ _ ?_
                  clear hK K
                  refine tail_late 31 (some 46) (v := ?_) rfl (Or.inl ⟨by rfl, ?_⟩) ?_
                  rotate_left
                  · intro w hSw; (try dsimp only at hSw); go_simp; first | done | (with_reducible rfl)
                  simp only [Act.put, List.setIfInBounds_toArray, List.set_cons_zero, List.set_cons_succ]
                  refine tail_late 32 (some 47) (v := ?_) rfl (Or.inl ⟨by rfl, ?_⟩) ?_
                  rotate_left
                  · intro w hSw; (try dsimp only at hSw); go_simp; first | done | (with_reducible rfl)
                  simp only [Act.put, List.setIfInBounds_toArray, List.set_cons_zero, List.set_cons_succ]
                  refine wpTail.ready (rs := [33]) (by kernel_rfl) (by simp) ?_
                  refine AllTail.late rfl (by kernel_rfl) (fun K hK => ?_) AllTail.nil
                  go_simp
                  go_wp2_with (fail)
                  refine hK.out _ _ ?_
                  clear hK K
                  refine wpTail.done (by kernel_rfl) ?_ _
                  have HX := Lib.hid (HNX.out _ _ _ _ _ _ hS13)
                  clear l0 l1 l2 l3 l4 l5
                  go_wp2_with fail
                  go_roundg (N - (i + 1))
                  case measure => exact hms
                  case rel => exact ⟨i + 1, by simp, by omega, Nat.le_refl _, Lib.hid ⟨_, _, _, HX.out⟩⟩
        · go_simp
          go_wp2_with (fail)
          have hS14 := hS1.build 1 (4, .bool false) rfl rfl
          simp only [List.set_cons_zero, List.set_cons_succ] at hS14
          obtain ⟨z14, hz14⟩ : ∃ g, W1.heap.size = g := ⟨_, rfl⟩
          rw [hz14] at hS14 ⊢
          generalize hW14 : W1.alloc (.cells #[.bool false] 4) = W14 at hS14 ⊢
          clear hW14 hz14
          refine hK.out _ _ (HLD.out _ hS14.k) (fun hHeld => ?_)
          clear hK K
          refine wpTail.ready (rs := [12, 23]) (by kernel_rfl) (by simp) ?_
          refine AllTail.cons rfl (fun K hK => ?_) (AllTail.cons rfl (fun K hK => ?_) (AllTail.nil))
          · refine hS14.app 0 o8 (Nat.le_trans hbY hS14.k.size) rfl (.tmp 23) (.tmp 28) rfl _ _ _ _ rfl rfl rfl rfl rfl (by simp [Act.eval, Act.put]) (by simp [Act.eval, Act.put]) HL0.out ?_
            intro A15 c15 W15 hS15
            simp only [List.set_cons_zero, List.set_cons_succ] at hS15
            refine hK.out _ _ (HLD.out _ hS15.k) (fun hHeld => ?_)
            clear hK K
            refine wpTail.ready (rs := [18, 23]) (by kernel_rfl) (by simp) ?_
            refine AllTail.cons rfl (fun K hK => ?_) (AllTail.cons rfl (fun K hK => ?_) (AllTail.nil))
            · refine hS15.app 1 oBd (Nat.le_trans hbY hS15.k.size) rfl (.tmp 33) (.tmp 34) rfl _ _ _ _ rfl rfl rfl rfl rfl (by simp [Act.eval, Act.put]) (by simp [Act.eval, Act.put]) HL1.out ?_
              intro A16 c16 W16 hS16
              simp only [List.set_cons_zero, List.set_cons_succ] at hS16
              refine hK.out _ _ (HLD.out _ hS16.k) (fun hHeld => ?_)
              clear hK K
              refine wpTail.ready (rs := [23]) (by kernel_rfl) (by simp) ?_
              refine AllTail.cons rfl (fun K hK => ?_) (AllTail.nil)
              · go_simp
                go_wp2_with (fail)
                have hS17 := hS16.build 2 (4, .bool false) rfl rfl
                simp only [List.set_cons_zero, List.set_cons_succ] at hS17
                obtain ⟨z17, hz17⟩ : ∃ g, W16.heap.size = g := ⟨_, rfl⟩
                rw [hz17] at hS17 ⊢
                generalize hW17 : W16.alloc (.cells #[.bool false] 4) = W17 at hS17 ⊢
                clear hW17 hz17
                refine hK.out _ _ (HLD.out _ hS17.k) (fun hHeld => ?_)
                clear hK K
                refine wpTail.ready (rs := [24]) (by kernel_rfl) (by simp) ?_
                refine AllTail.cons rfl (fun K hK => ?_) (AllTail.nil)
                · refine hS17.app 2 oBd (Nat.le_trans hbY hS17.k.size) rfl (.tmp 39) (.tmp 40) rfl _ _ _ _ rfl rfl rfl rfl rfl (by simp [Act.eval, Act.put]) (by simp [Act.eval, Act.put]) HL2.out ?_
                  intro A18 c18 W18 hS18
                  simp only [List.set_cons_zero, List.set_cons_succ] at hS18
                  refine hK.out _ _ (HLD.out _ hS18.k) (fun hHeld => ?_)
                  clear hK K
                  refine tail_pure 25 (some 42) (v := ?_) rfl (Or.inl ⟨by rfl, ?_⟩) (fun _ => hHeld) ?_
                  rotate_left
                  · intro w hSw; (try dsimp only at hSw); go_simp; first | done | (with_reducible rfl)
                  simp only [Act.put, List.setIfInBounds_toArray, List.set_cons_zero, List.set_cons_succ]
                  refine tail_pure 26 (some 43) (v := ?_) rfl (Or.inl ⟨by rfl, ?_⟩) (fun _ => hHeld) ?_
                  rotate_left
                  · intro w hSw; (try dsimp only at hSw); go_simp; first | done | (with_reducible rfl)
                  simp only [Act.put, List.setIfInBounds_toArray, List.set_cons_zero, List.set_cons_succ]
                  refine wpTail.ready (rs := [27]) (by kernel_rfl) (by simp) ?_
                  refine AllTail.late rfl (by kernel_rfl) (fun K hK => ?_) AllTail.nil
                  have hl6 := HLY.out _ hS18.k (.slice A15 (X0.length + 1) c15) (.slice A16 (X1.length + 1) c16)
                  have l0 := hl6.1.1
                  have l1 := hl6.1.2.1
                  have l2 := hl6.2.1.1
                  have l3 := hl6.2.1.2
                  have l4 := hl6.2.2.1
                  have l5 := hl6.2.2.2
                  clear hl6
                  go_simp
                  go_wp2_with (fail)
                  refine hK.out _ _ ?_
                  clear hK K
                  refine tail_late 28 (some 44) (v := ?_) rfl (Or.inl ⟨by rfl, ?_⟩) ?_
                  rotate_left
                  · intro w hSw; (try dsimp only at hSw); go_simp; first | done | (with_reducible rfl)
                  simp only [Act.put, List.setIfInBounds_toArray, List.set_cons_zero, List.set_cons_succ]
                  refine tail_late 29 (some 45) (v := ?_) rfl (Or.inl ⟨by rfl, ?_⟩) ?_
                  rotate_left
                  · intro w hSw; (try dsimp only at hSw); go_simp; first | done | (with_reducible rfl)
                  simp only [Act.put, List.setIfInBounds_toArray, List.set_cons_zero, List.set_cons_succ]
                  refine wpTail.ready (rs := [30]) (by kernel_rfl) (by simp) ?_
                  refine AllTail.late rfl (by kernel_rfl) (fun K hK => ?_) AllTail.nil
                  go_simp
                  go_wp2_with (fail)
                  refine hK.out _ _ ?_
                  clear hK K
                  refine tail_late 31 (some 46) (v := ?_) rfl (Or.inl ⟨by rfl, ?_⟩) ?_
                  rotate_left
                  · intro w hSw; (try dsimp only at hSw); go_simp; first | done | (with_reducible rfl)
                  simp only [Act.put, List.setIfInBounds_toArray, List.set_cons_zero, List.set_cons_succ]
                  refine tail_late 32 (some 47) (v := ?_) rfl (Or.inl ⟨by rfl, ?_⟩) ?_
                  rotate_left
                  · intro w hSw; (try dsimp only at hSw); go_simp; first | done | (with_reducible rfl)
                  simp only [Act.put, List.setIfInBounds_toArray, List.set_cons_zero, List.set_cons_succ]
                  refine wpTail.ready (rs := [33]) (by kernel_rfl) (by simp) ?_
                  refine AllTail.late rfl (by kernel_rfl) (fun K hK => ?_) AllTail.nil
                  go_simp
                  go_wp2_with (fail)
                  refine hK.out _ _ ?_
                  clear hK K
                  refine wpTail.done (by kernel_rfl) ?_ _
                  have HX := Lib.hid (HNX.out _ _ _ _ _ _ hS18)
                  clear l0 l1 l2 l3 l4 l5
                  go_wp2_with fail
                  go_roundg (N - (i + 1))
                  case measure => exact hms
                  case rel => exact ⟨i + 1, by simp, by omega, Nat.le_refl _, Lib.hid ⟨_, _, _, HX.out⟩⟩
            · go_simp
              go_wp2_with (fail)
              have hS19 := hS15.build 2 (4, .bool false) rfl rfl
              simp only [List.set_cons_zero, List.set_cons_succ] at hS19
              obtain ⟨z19, hz19⟩ : ∃ g, W15.heap.size = g := ⟨_, rfl⟩
              rw [hz19] at hS19 ⊢
              generalize hW19 : W15.alloc (.cells #[.bool false] 4) = W19 at hS19 ⊢
              clear hW19 hz19
              refine hK.out _ _ (HLD.out _ hS19.k) (fun hHeld => ?_)
              clear hK K
              refine wpTail.ready (rs := [18]) (by kernel_rfl) (by simp) ?_
              refine AllTail.cons rfl (fun K hK => ?_) (AllTail.nil)
              · refine hS19.app 1 oBd (Nat.le_trans hbY hS19.k.size) rfl (.tmp 33) (.tmp 34) rfl _ _ _ _ rfl rfl rfl rfl rfl (by simp [Act.eval, Act.put]) (by simp [Act.eval, Act.put]) HL1.out ?_
                intro A20 c20 W20 hS20
                simp only [List.set_cons_zero, List.set_cons_succ] at hS20
                refine hK.out _ _ (HLD.out _ hS20.k) (fun hHeld => ?_)
                clear hK K
                refine wpTail.ready (rs := [24]) (by kernel_rfl) (by simp) ?_
                refine AllTail.cons rfl (fun K hK => ?_) (AllTail.nil)
                · refine hS20.app 2 oBd (Nat.le_trans hbY hS20.k.size) rfl (.tmp 39) (.tmp 40) rfl _ _ _ _ rfl rfl rfl rfl rfl (by simp [Act.eval, Act.put]) (by simp [Act.eval, Act.put]) HL2.out ?_
                  intro A21 c21 W21 hS21
                  simp only [List.set_cons_zero, List.set_cons_succ] at hS21
                  refine hK.out _ _ (HLD.out _ hS21.k) (fun hHeld => ?_)
                  clear hK K
                  refine tail_pure 25 (some 42) (v := ?_) rfl (Or.inl ⟨by rfl, ?_⟩) (fun _ => hHeld) ?_
                  rotate_left
                  · intro w hSw; (try dsimp only at hSw); go_simp; first | done | (with_reducible rfl)
                  simp only [Act.put, List.setIfInBounds_toArray, List.set_cons_zero, List.set_cons_succ]
                  refine tail_pure 26 (some 43) (v := ?_) rfl (Or.inl ⟨by rfl, ?_⟩) (fun _ => hHeld) ?_
                  rotate_left
                  · intro w hSw; (try dsimp only at hSw); go_simp; first | done | (with_reducible rfl)
                  simp only [Act.put, List.setIfInBounds_toArray, List.set_cons_zero, List.set_cons_succ]
                  refine wpTail.ready (rs := [27]) (by kernel_rfl) (by simp) ?_
                  refine AllTail.late rfl (by kernel_rfl) (fun K hK => ?_) AllTail.nil
                  have hl6 := HLY.out _ hS21.k (.slice A15 (X0.length + 1) c15) (.slice A20 (X1.length + 1) c20)
                  have l0 := hl6.1.1
                  have l1 := hl6.1.2.1
                  have l2 := hl6.2.1.1
                  have l3 := hl6.2.1.2
                  have l4 := hl6.2.2.1
                  have l5 := hl6.2.2.2
                  clear hl6
                  go_simp
                  go_wp2_with (fail)
                  refine hK.out _ _ ?_
                  clear hK K
                  refine tail_late 28 (some 44) (v := ?_) rfl (Or.inl ⟨by rfl, ?_⟩) ?_
                  rotate_left
                  · intro w hSw; (try dsimp only at hSw); go_simp; first | done | (with_reducible rfl)
                  simp only [Act.put, List.setIfInBounds_toArray, List.set_cons_zero, List.set_cons_succ]
                  refine tail_late 29 (some 45) (v := ?_) rfl (Or.inl ⟨by rfl, ?_⟩) ?_
                  rotate_left
                  · intro w hSw; (try dsimp only at hSw); go_simp; first | done | (with_reducible rfl)
                  simp only [Act.put, List.setIfInBounds_toArray, List.set_cons_zero, List.set_cons_succ]
                  refine wpTail.ready (rs := [30]) (by kernel_rfl) (by simp) ?_
                  refine AllTail.late rfl (by kernel_rfl) (fun K hK => ?_) AllTail.nil
                  go_simp
                  go_wp2_with (fail)
                  refine hK.out _ _ ?_
                  clear hK K
                  refine tail_late 31 (some 46) (v := ?_) rfl (Or.inl ⟨by rfl, ?_⟩) ?_
                  rotate_left
                  · intro w hSw; (try dsimp only at hSw); go_simp; first | done | (with_reducible rfl)
                  simp only [Act.put, List.setIfInBounds_toArray, List.set_cons_zero, List.set_cons_succ]
                  refine tail_late 32 (some 47) (v := ?_) rfl (Or.inl ⟨by rfl, ?_⟩) ?_
                  rotate_left
                  · intro w hSw; (try dsimp only at hSw); go_simp; first | done | (with_reducible rfl)
                  simp only [Act.put, List.setIfInBounds_toArray, List.set_cons_zero, List.set_cons_succ]
                  refine wpTail.ready (rs := [33]) (by kernel_rfl) (by simp) ?_
                  refine AllTail.late rfl (by kernel_rfl) (fun K hK => ?_) AllTail.nil
                  go_simp
                  go_wp2_with (fail)
                  refine hK.out _ _ ?_
                  clear hK K
                  refine wpTail.done (by kernel_rfl) ?_ _
                  have HX := Lib.hid (HNX.out _ _ _ _ _ _ hS21)
                  clear l0 l1 l2 l3 l4 l5
                  go_wp2_with fail
                  go_roundg (N - (i + 1))
                  case measure => exact hms
                  case rel => exact ⟨i + 1, by simp, by omega, Nat.le_refl _, Lib.hid ⟨_, _, _, HX.out⟩⟩
          · go_simp
            go_wp2_with (fail)
            have hS22 := hS14.build 2 (4, .bool false) rfl rfl
            simp only [List.set_cons_zero, List.set_cons_succ] at hS22
            obtain ⟨z22, hz22⟩ : ∃ g, W14.heap.size = g := ⟨_, rfl⟩
            rw [hz22] at hS22 ⊢
            generalize hW22 : W14.alloc (.cells #[.bool false] 4) = W22 at hS22 ⊢
            clear hW22 hz22
            refine hK.out _ _ (HLD.out _ hS22.k) (fun hHeld => ?_)
            clear hK K
            refine wpTail.ready (rs := [12]) (by kernel_rfl) (by simp) ?_
            refine AllTail.cons rfl (fun K hK => ?_) (AllTail.nil)
            · refine hS22.app 0 o8 (Nat.le_trans hbY hS22.k.size) rfl (.tmp 23) (.tmp 28) rfl _ _ _ _ rfl rfl rfl rfl rfl (by simp [Act.eval, Act.put]) (by simp [Act.eval, Act.put]) HL0.out ?_
              intro A23 c23 W23 hS23
              simp only [List.set_cons_zero, List.set_cons_succ] at hS23
              refine hK.out _ _ (HLD.out _ hS23.k) (fun hHeld => ?_)
              clear hK K
              refine wpTail.ready (rs := [18]) (by kernel_rfl) (by simp) ?_
              refine AllTail.cons rfl (fun K hK => ?_) (AllTail.nil)
              · refine hS23.app 1 oBd (Nat.le_trans hbY hS23.k.size) rfl (.tmp 33) (.tmp 34) rfl _ _ _ _ rfl rfl rfl rfl rfl (by simp [Act.eval, Act.put]) (by simp [Act.eval, Act.put]) HL1.out ?_
                intro A24 c24 W24 hS24
                simp only [List.set_cons_zero, List.set_cons_succ] at hS24
                refine hK.out _ _ (HLD.out _ hS24.k) (fun hHeld => ?_)
                clear hK K
                refine wpTail.ready (rs := [24]) (by kernel_rfl) (by simp) ?_
                refine AllTail.cons rfl (fun K hK => ?_) (AllTail.nil)
                · refine hS24.app 2 oBd (Nat.le_trans hbY hS24.k.size) rfl (.tmp 39) (.tmp 40) rfl _ _ _ _ rfl rfl rfl rfl rfl (by simp [Act.eval, Act.put]) (by simp [Act.eval, Act.put]) HL2.out ?_
                  intro A25 c25 W25 hS25
                  simp only [List.set_cons_zero, List.set_cons_succ] at hS25
                  refine hK.out _ _ (HLD.out _ hS25.k) (fun hHeld => ?_)
                  clear hK K
                  refine tail_pure 25 (some 42) (v := ?_) rfl (Or.inl ⟨by rfl, ?_⟩) (fun _ => hHeld) ?_
                  rotate_left
                  · intro w hSw; (try dsimp only at hSw); go_simp; first | done | (with_reducible rfl)
                  simp only [Act.put, List.setIfInBounds_toArray, List.set_cons_zero, List.set_cons_succ]
                  refine tail_pure 26 (some 43) (v := ?_) rfl (Or.inl ⟨by rfl, ?_⟩) (fun _ => hHeld) ?_
                  rotate_left
                  · intro w hSw; (try dsimp only at hSw); go_simp; first | done | (with_reducible rfl)
                  simp only [Act.put, List.setIfInBounds_toArray, List.set_cons_zero, List.set_cons_succ]
                  refine wpTail.ready (rs := [27]) (by kernel_rfl) (by simp) ?_
                  refine AllTail.late rfl (by kernel_rfl) (fun K hK => ?_) AllTail.nil
                  have hl6 := HLY.out _ hS25.k (.slice A23 (X0.length + 1) c23) (.slice A24 (X1.length + 1) c24)
                  have l0 := hl6.1.1
                  have l1 := hl6.1.2.1
                  have l2 := hl6.2.1.1
                  have l3 := hl6.2.1.2
                  have l4 := hl6.2.2.1
                  have l5 := hl6.2.2.2
                  clear hl6
                  go_simp
                  go_wp2_with (fail)
                  refine hK.out _ _ ?_
                  clear hK K
                  refine tail_late 28 (some 44) (v := ?_) rfl (Or.inl ⟨by rfl, ?_⟩) ?_
                  rotate_left
                  · intro w hSw; (try dsimp only at hSw); go_simp; first | done | (with_reducible rfl)
                  simp only [Act.put, List.setIfInBounds_toArray, List.set_cons_zero, List.set_cons_succ]
                  refine tail_late 29 (some 45) (v := ?_) rfl (Or.inl ⟨by rfl, ?_⟩) ?_
                  rotate_left
                  · intro w hSw; (try dsimp only at hSw); go_simp; first | done | (with_reducible rfl)
                  simp only [Act.put, List.setIfInBounds_toArray, List.set_cons_zero, List.set_cons_succ]
                  refine wpTail.ready (rs := [30]) (by kernel_rfl) (by simp) ?_
                  refine AllTail.late rfl (by kernel_rfl) (fun K hK => ?_) AllTail.nil
                  go_simp
                  go_wp2_with (fail)
                  refine hK.out _ _ ?_
                  clear hK K
                  refine tail_late 31 (some 46) (v := ?_) rfl (Or.inl ⟨by rfl, ?_⟩) ?_
                  rotate_left
                  · intro w hSw; (try dsimp only at hSw); go_simp; first | done | (with_reducible rfl)
                  simp only [Act.put, List.setIfInBounds_toArray, List.set_cons_zero, List.set_cons_succ]
                  refine tail_late 32 (some 47) (v := ?_) rfl (Or.inl ⟨by rfl, ?_⟩) ?_
                  rotate_left
                  · intro w hSw; (try dsimp only at hSw); go_simp; first | done | (with_reducible rfl)
                  simp only [Act.put, List.setIfInBounds_toArray, List.set_cons_zero, List.set_cons_succ]
                  refine wpTail.ready (rs := [33]) (by kernel_rfl) (by simp) ?_
                  refine AllTail.late rfl (by kernel_rfl) (fun K hK => ?_) AllTail.nil
                  go_simp
                  go_wp2_with (fail)
                  refine hK.out _ _ ?_
                  clear hK K
                  refine wpTail.done (by kernel_rfl) ?_ _
                  have HX := Lib.hid (HNX.out _ _ _ _ _ _ hS25)
                  clear l0 l1 l2 l3 l4 l5
                  go_wp2_with fail
                  go_roundg (N - (i + 1))
                  case measure => exact hms
                  case rel => exact ⟨i + 1, by simp, by omega, Nat.le_refl _, Lib.hid ⟨_, _, _, HX.out⟩⟩
        · go_simp
          go_wp2_with (fail)
          have hS26 := hS1.build 2 (4, .bool false) rfl rfl
          simp only [List.set_cons_zero, List.set_cons_succ] at hS26
          obtain ⟨z26, hz26⟩ : ∃ g, W1.heap.size = g := ⟨_, rfl⟩
          rw [hz26] at hS26 ⊢
          generalize hW26 : W1.alloc (.cells #[.bool false] 4) = W26 at hS26 ⊢
          clear hW26 hz26
          refine hK.out _ _ (HLD.out _ hS26.k) (fun hHeld => ?_)
          clear hK K
          refine wpTail.ready (rs := [12, 17]) (by kernel_rfl) (by simp) ?_
          refine AllTail.cons rfl (fun K hK => ?_) (AllTail.cons rfl (fun K hK => ?_) (AllTail.nil))
          · refine hS26.app 0 o8 (Nat.le_trans hbY hS26.k.size) rfl (.tmp 23) (.tmp 28) rfl _ _ _ _ rfl rfl rfl rfl rfl (by simp [Act.eval, Act.put]) (by simp [Act.eval, Act.put]) HL0.out ?_
            intro A27 c27 W27 hS27
            simp only [List.set_cons_zero, List.set_cons_succ] at hS27
            refine hK.out _ _ (HLD.out _ hS27.k) (fun hHeld => ?_)
            clear hK K
            refine wpTail.ready (rs := [17]) (by kernel_rfl) (by simp) ?_
            refine AllTail.cons rfl (fun K hK => ?_) (AllTail.nil)
            · go_simp
              go_wp2_with (fail)
              have hS28 := hS27.build 1 (4, .bool false) rfl rfl
              simp only [List.set_cons_zero, List.set_cons_succ] at hS28
              obtain ⟨z28, hz28⟩ : ∃ g, W27.heap.size = g := ⟨_, rfl⟩
              rw [hz28] at hS28 ⊢
              generalize hW28 : W27.alloc (.cells #[.bool false] 4) = W28 at hS28 ⊢
              clear hW28 hz28
              refine hK.out _ _ (HLD.out _ hS28.k) (fun hHeld => ?_)
              clear hK K
              refine wpTail.ready (rs := [18]) (by kernel_rfl) (by simp) ?_
              refine AllTail.cons rfl (fun K hK => ?_) (AllTail.nil)
              · refine hS28.app 1 oBd (Nat.le_trans hbY hS28.k.size) rfl (.tmp 33) (.tmp 34) rfl _ _ _ _ rfl rfl rfl rfl rfl (by simp [Act.eval, Act.put]) (by simp [Act.eval, Act.put]) HL1.out ?_
                intro A29 c29 W29 hS29
                simp only [List.set_cons_zero, List.set_cons_succ] at hS29
                refine hK.out _ _ (HLD.out _ hS29.k) (fun hHeld => ?_)
                clear hK K
                refine wpTail.ready (rs := [24]) (by kernel_rfl) (by simp) ?_
                refine AllTail.cons rfl (fun K hK => ?_) (AllTail.nil)
                · refine hS29.app 2 oBd (Nat.le_trans hbY hS29.k.size) rfl (.tmp 39) (.tmp 40) rfl _ _ _ _ rfl rfl rfl rfl rfl (by simp [Act.eval, Act.put]) (by simp [Act.eval, Act.put]) HL2.out ?_
                  intro A30 c30 W30 hS30
                  simp only [List.set_cons_zero, List.set_cons_succ] at hS30
                  refine hK.out _ _ (HLD.out _ hS30.k) (fun hHeld => ?_)
                  clear hK K
                  refine tail_pure 25 (some 42) (v := ?_) rfl (Or.inl ⟨by rfl, ?_⟩) (fun _ => hHeld) ?_
                  rotate_left
                  · intro w hSw; (try dsimp only at hSw); go_simp; first | done | (with_reducible rfl)
                  simp only [Act.put, List.setIfInBounds_toArray, List.set_cons_zero, List.set_cons_succ]
                  refine tail_pure 26 (some 43) (v := ?_) rfl (Or.inl ⟨by rfl, ?_⟩) (fun _ => hHeld) ?_
                  rotate_left
                  · intro w hSw; (try dsimp only at hSw); go_simp; first | done | (with_reducible rfl)
                  simp only [Act.put, List.setIfInBounds_toArray, List.set_cons_zero, List.set_cons_succ]
                  refine wpTail.ready (rs := [27]) (by kernel_rfl) (by simp) ?_
                  refine AllTail.late rfl (by kernel_rfl) (fun K hK => ?_) AllTail.nil
                  have hl6 := HLY.out _ hS30.k (.slice A27 (X0.length + 1) c27) (.slice A29 (X1.length + 1) c29)
                  have l0 := hl6.1.1
                  have l1 := hl6.1.2.1
                  have l2 := hl6.2.1.1
                  have l3 := hl6.2.1.2
                  have l4 := hl6.2.2.1
                  have l5 := hl6.2.2.2
                  clear hl6
                  go_simp
                  go_wp2_with (fail)
                  refine hK.out _ _ ?_
                  clear hK K
                  refine tail_late 28 (some 44) (v := ?_) rfl (Or.inl ⟨by rfl, ?_⟩) ?_
                  rotate_left
                  · intro w hSw; (try dsimp only at hSw); go_simp; first | done | (with_reducible rfl)
                  simp only [Act.put, List.setIfInBounds_toArray, List.set_cons_zero, List.set_cons_succ]
                  refine tail_late 29 (some 45) (v := ?_) rfl (Or.inl ⟨by rfl, ?_⟩) ?_
                  rotate_left
                  · intro w hSw; (try dsimp only at hSw); go_simp; first | done | (with_reducible rfl)
                  simp only [Act.put, List.setIfInBounds_toArray, List.set_cons_zero, List.set_cons_succ]
                  refine wpTail.ready (rs := [30]) (by kernel_rfl) (by simp) ?_
                  refine AllTail.late rfl (by kernel_rfl) (fun K hK => ?_) AllTail.nil
                  go_simp
                  go_wp2_with (fail)
                  refine hK.out _ _ ?_
                  clear hK K
                  refine tail_late 31 (some 46) (v := ?_) rfl (Or.inl ⟨by rfl, ?_⟩) ?_
                  rotate_left
                  · intro w hSw; (try dsimp only at hSw); go_simp; first | done | (with_reducible rfl)
                  simp only [Act.put, List.setIfInBounds_toArray, List.set_cons_zero, List.set_cons_succ]
                  refine tail_late 32 (some 47) (v := ?_) rfl (Or.inl ⟨by rfl, ?_⟩) ?_
                  rotate_left
                  · intro w hSw; (try dsimp only at hSw); go_simp; first | done | (with_reducible rfl)
                  simp only [Act.put, List.setIfInBounds_toArray, List.set_cons_zero, List.set_cons_succ]
                  refine wpTail.ready (rs := [33]) (by kernel_rfl) (by simp) ?_
                  refine AllTail.late rfl (by kernel_rfl) (fun K hK => ?_) AllTail.nil
                  go_simp
                  go_wp2_with (fail)
                  refine hK.out _ _ ?_
                  clear hK K
                  refine wpTail.done (by kernel_rfl) ?_ _
                  have HX := Lib.hid (HNX.out _ _ _ _ _ _ hS30)
                  clear l0 l1 l2 l3 l4 l5
                  go_wp2_with fail
                  go_roundg (N - (i + 1))
                  case measure => exact hms
                  case rel => exact ⟨i + 1, by simp, by omega, Nat.le_refl _, Lib.hid ⟨_, _, _, HX.out⟩⟩
          · go_simp
            go_wp2_with (fail)
            have hS31 := hS26.build 1 (4, .bool false) rfl rfl
            simp only [List.set_cons_zero, List.set_cons_succ] at hS31
            obtain ⟨z31, hz31⟩ : ∃ g, W26.heap.size = g := ⟨_, rfl⟩
            rw [hz31] at hS31 ⊢
            generalize hW31 : W26.alloc (.cells #[.bool false] 4) = W31 at hS31 ⊢
            clear hW31 hz31
            refine hK.out _ _ (HLD.out _ hS31.k) (fun hHeld => ?_)
            clear hK K
            refine wpTail.ready (rs := [12]) (by kernel_rfl) (by simp) ?_
            refine AllTail.cons rfl (fun K hK => ?_) (AllTail.nil)
            · refine hS31.app 0 o8 (Nat.le_trans hbY hS31.k.size) rfl (.tmp 23) (.tmp 28) rfl _ _ _ _ rfl rfl rfl rfl rfl (by simp [Act.eval, Act.put]) (by simp [Act.eval, Act.put]) HL0.out ?_
              intro A32 c32 W32 hS32
              simp only [List.set_cons_zero, List.set_cons_succ] at hS32
              refine hK.out _ _ (HLD.out _ hS32.k) (fun hHeld => ?_)
              clear hK K
              refine wpTail.ready (rs := [18]) (by kernel_rfl) (by simp) ?_
              refine AllTail.cons rfl (fun K hK => ?_) (AllTail.nil)
              · refine hS32.app 1 oBd (Nat.le_trans hbY hS32.k.size) rfl (.tmp 33) (.tmp 34) rfl _ _ _ _ rfl rfl rfl rfl rfl (by simp [Act.eval, Act.put]) (by simp [Act.eval, Act.put]) HL1.out ?_
                intro A33 c33 W33 hS33
                simp only [List.set_cons_zero, List.set_cons_succ] at hS33
                refine hK.out _ _ (HLD.out _ hS33.k) (fun hHeld => ?_)
                clear hK K
                refine wpTail.ready (rs := [24]) (by kernel_rfl) (by simp) ?_
                refine AllTail.cons rfl (fun K hK => ?_) (AllTail.nil)
                · refine hS33.app 2 oBd (Nat.le_trans hbY hS33.k.size) rfl (.tmp 39) (.tmp 40) rfl _ _ _ _ rfl rfl rfl rfl rfl (by simp [Act.eval, Act.put]) (by simp [Act.eval, Act.put]) HL2.out ?_
                  intro A34 c34 W34 hS34
                  simp only [List.set_cons_zero, List.set_cons_succ] at hS34
                  refine hK.out _ _ (HLD.out _ hS34.k) (fun hHeld => ?_)
                  clear hK K
                  refine tail_pure 25 (some 42) (v := ?_) rfl (Or.inl ⟨by rfl, ?_⟩) (fun _ => hHeld) ?_
                  rotate_left
                  · intro w hSw; (try dsimp only at hSw); go_simp; first | done | (with_reducible rfl)
                  simp only [Act.put, List.setIfInBounds_toArray, List.set_cons_zero, List.set_cons_succ]
                  refine tail_pure 26 (some 43) (v := ?_) rfl (Or.inl ⟨by rfl, ?_⟩) (fun _ => hHeld) ?_
                  rotate_left
                  · intro w hSw; (try dsimp only at hSw); go_simp; first | done | (with_reducible rfl)
                  simp only [Act.put, List.setIfInBounds_toArray, List.set_cons_zero, List.set_cons_succ]
                  refine wpTail.ready (rs := [27]) (by kernel_rfl) (by simp) ?_
                  refine AllTail.late rfl (by kernel_rfl) (fun K hK => ?_) AllTail.nil
                  have hl6 := HLY.out _ hS34.k (.slice A32 (X0.length + 1) c32) (.slice A33 (X1.length + 1) c33)
                  have l0 := hl6.1.1
                  have l1 := hl6.1.2.1
                  have l2 := hl6.2.1.1
                  have l3 := hl6.2.1.2
                  have l4 := hl6.2.2.1
                  have l5 := hl6.2.2.2
                  clear hl6
                  go_simp
                  go_wp2_with (fail)
                  refine hK.out _ _ ?_
                  clear hK K
                  refine tail_late 28 (some 44) (v := ?_) rfl (Or.inl ⟨by rfl, ?_⟩) ?_
                  rotate_left
                  · intro w hSw; (try dsimp only at hSw); go_simp; first | done | (with_reducible rfl)
                  simp only [Act.put, List.setIfInBounds_toArray, List.set_cons_zero, List.set_cons_succ]
                  refine tail_late 29 (some 45) (v := ?_) rfl (Or.inl ⟨by rfl, ?_⟩) ?_
                  rotate_left
                  · intro w hSw; (try dsimp only at hSw); go_simp; first | done | (with_reducible rfl)
                  simp only [Act.put, List.setIfInBounds_toArray, List.set_cons_zero, List.set_cons_succ]
                  refine wpTail.ready (rs := [30]) (by kernel_rfl) (by simp) ?_
                  refine AllTail.late rfl (by kernel_rfl) (fun K hK => ?_) AllTail.nil
                  go_simp
                  go_wp2_with (fail)
                  refine hK.out _ _ ?_
                  clear hK K
                  refine tail_late 31 (some 46) (v := ?_) rfl (Or.inl ⟨by rfl, ?_⟩) ?_
                  rotate_left
                  · intro w hSw; (try dsimp only at hSw); go_simp; first | done | (with_reducible rfl)
                  simp only [Act.put, List.setIfInBounds_toArray, List.set_cons_zero, List.set_cons_succ]
                  refine tail_late 32 (some 47) (v := ?_) rfl (Or.inl ⟨by rfl, ?_⟩) ?_
                  rotate_left
                  · intro w hSw; (try dsimp only at hSw); go_simp; first | done | (with_reducible rfl)
                  simp only [Act.put, List.setIfInBounds_toArray, List.set_cons_zero, List.set_cons_succ]
                  refine wpTail.ready (rs := [33]) (by kernel_rfl) (by simp) ?_
                  refine AllTail.late rfl (by kernel_rfl) (fun K hK => ?_) AllTail.nil
                  go_simp
                  go_wp2_with (fail)
                  refine hK.out _ _ ?_
                  clear hK K
                  refine wpTail.done (by kernel_rfl) ?_ _
                  have HX := Lib.hid (HNX.out _ _ _ _ _ _ hS34)
                  clear l0 l1 l2 l3 l4 l5
                  go_wp2_with fail
                  go_roundg (N - (i + 1))
                  case measure => exact hms
                  case rel => exact ⟨i + 1, by simp, by omega, Nat.le_refl _, Lib.hid ⟨_, _, _, HX.out⟩⟩
      · go_simp
        go_wp2_with (fail)
        have hS35 := hS0.build 1 (4, .bool false) rfl rfl
        simp only [List.set_cons_zero, List.set_cons_succ] at hS35
        obtain ⟨z35, hz35⟩ : ∃ g, Y.heap.size = g := ⟨_, rfl⟩
        rw [hz35] at hS35 ⊢
        generalize hW35 : Y.alloc (.cells #[.bool false] 4) = W35 at hS35 ⊢
        clear hW35 hz35
        refine hK.out _ _ (HLD.out _ hS35.k) (fun hHeld => ?_)
        clear hK K
        refine wpTail.ready (rs := [11, 23]) (by kernel_rfl) (by simp) ?_
        refine AllTail.cons rfl (fun K hK => ?_) (AllTail.cons rfl (fun K hK => ?_) (AllTail.nil))
        · go_simp
          go_wp2_with (fail)
          have hS36 := hS35.build 0 (5, .int .u8 x) rfl rfl
          simp only [List.set_cons_zero, List.set_cons_succ] at hS36
          obtain ⟨z36, hz36⟩ : ∃ g, W35.heap.size = g := ⟨_, rfl⟩
          rw [hz36] at hS36 ⊢
          generalize hW36 : W35.alloc (.cells #[.int .u8 x] 5) = W36 at hS36 ⊢
          clear hW36 hz36
          refine hK.out _ _ (HLD.out _ hS36.k) (fun hHeld => ?_)
          clear hK K
          refine wpTail.ready (rs := [12, 23]) (by kernel_rfl) (by simp) ?_
          refine AllTail.cons rfl (fun K hK => ?_) (AllTail.cons rfl (fun K hK => ?_) (AllTail.nil))
          · refine hS36.app 0 o8 (Nat.le_trans hbY hS36.k.size) rfl (.tmp 23) (.tmp 28) rfl _ _ _ _ rfl rfl rfl rfl rfl (by simp [Act.eval, Act.put]) (by simp [Act.eval, Act.put]) HL0.out ?_
            intro A37 c37 W37 hS37
            simp only [List.set_cons_zero, List.set_cons_succ] at hS37
            refine hK.out _ _ (HLD.out _ hS37.k) (fun hHeld => ?_)
            clear hK K
            refine wpTail.ready (rs := [18, 23]) (by kernel_rfl) (by simp) ?_
            refine AllTail.cons rfl (fun K hK => ?_) (AllTail.cons rfl (fun K hK => ?_) (AllTail.nil))
            · refine hS37.app 1 oBd (Nat.le_trans hbY hS37.k.size) rfl (.tmp 33) (.tmp 34) rfl _ _ _ _ rfl rfl rfl rfl rfl (by simp [Act.eval, Act.put]) (by simp [Act.eval, Act.put]) HL1.out ?_
              intro A38 c38 W38 hS38
              simp only [List.set_cons_zero, List.set_cons_succ] at hS38
              refine hK.out _ _ (HLD.out _ hS38.k) (fun hHeld => ?_)
              clear hK K
              refine wpTail.ready (rs := [23]) (by kernel_rfl) (by simp) ?_
              refine AllTail.cons rfl (fun K hK => ?_) (AllTail.nil)
              · go_simp
                go_wp2_with (fail)
                have hS39 := hS38.build 2 (4, .bool false) rfl rfl
                simp only [List.set_cons_zero, List.set_cons_succ] at hS39
                obtain ⟨z39, hz39⟩ : ∃ g, W38.heap.size = g := ⟨_, rfl⟩
                rw [hz39] at hS39 ⊢
                generalize hW39 : W38.alloc (.cells #[.bool false] 4) = W39 at hS39 ⊢
                clear hW39 hz39
                refine hK.out _ _ (HLD.out _ hS39.k) (fun hHeld => ?_)
                clear hK K
                refine wpTail.ready (rs := [24]) (by kernel_rfl) (by simp) ?_
                refine AllTail.cons rfl (fun K hK => ?_) (AllTail.nil)
                · refine hS39.app 2 oBd (Nat.le_trans hbY hS39.k.size) rfl (.tmp 39) (.tmp 40) rfl _ _ _ _ rfl rfl rfl rfl rfl (by simp [Act.eval, Act.put]) (by simp [Act.eval, Act.put]) HL2.out ?_
                  intro A40 c40 W40 hS40
                  simp only [List.set_cons_zero, List.set_cons_succ] at hS40
                  refine hK.out _ _ (HLD.out _ hS40.k) (fun hHeld => ?_)
                  clear hK K
                  refine tail_pure 25 (some 42) (v := ?_) rfl (Or.inl ⟨by rfl, ?_⟩) (fun _ => hHeld) ?_
                  rotate_left
                  · intro w hSw; (try dsimp only at hSw); go_simp; first | done | (with_reducible rfl)
                  simp only [Act.put, List.setIfInBounds_toArray, List.set_cons_zero, List.set_cons_succ]
                  refine tail_pure 26 (some 43) (v := ?_) rfl (Or.inl ⟨by rfl, ?_⟩) (fun _ => hHeld) ?_
                  rotate_left
                  · intro w hSw; (try dsimp only at hSw); go_simp; first | done | (with_reducible rfl)
                  simp only [Act.put, List.setIfInBounds_toArray, List.set_cons_zero, List.set_cons_succ]
                  refine wpTail.ready (rs := [27]) (by kernel_rfl) (by simp) ?_
                  refine AllTail.late rfl (by kernel_rfl) (fun K hK => ?_) AllTail.nil
                  have hl6 := HLY.out _ hS40.k (.slice A37 (X0.length + 1) c37) (.slice A38 (X1.length + 1) c38)
                  have l0 := hl6.1.1
                  have l1 := hl6.1.2.1
                  have l2 := hl6.2.1.1
                  have l3 := hl6.2.1.2
                  have l4 := hl6.2.2.1
                  have l5 := hl6.2.2.2
                  clear hl6
                  go_simp
                  go_wp2_with (fail)
                  refine hK.out _ _ ?_
                  clear hK K
                  refine tail_late 28 (some 44) (v := ?_) rfl (Or.inl ⟨by rfl, ?_⟩) ?_
                  rotate_left
                  · intro w hSw; (try dsimp only at hSw); go_simp; first | done | (with_reducible rfl)
                  simp only [Act.put, List.setIfInBounds_toArray, List.set_cons_zero, List.set_cons_succ]
                  refine tail_late 29 (some 45) (v := ?_) rfl (Or.inl ⟨by rfl, ?_⟩) ?_
                  rotate_left
                  · intro w hSw; (try dsimp only at hSw); go_simp; first | done | (with_reducible rfl)
                  simp only [Act.put, List.setIfInBounds_toArray, List.set_cons_zero, List.set_cons_succ]
                  refine wpTail.ready (rs := [30]) (by kernel_rfl) (by simp) ?_
                  refine AllTail.late rfl (by kernel_rfl) (fun K hK => ?_) AllTail.nil
                  go_simp
                  go_wp2_with (fail)
                  refine hK.out _ _ ?_
                  clear hK K
                  refine tail_late 31 (some 46) (v := ?_) rfl (Or.inl ⟨by rfl, ?_⟩) ?_
                  rotate_left
                  · intro w hSw; (try dsimp only at hSw); go_simp; first | done | (with_reducible rfl)
                  simp only [Act.put, List.setIfInBounds_toArray, List.set_cons_zero, List.set_cons_succ]
                  refine tail_late 32 (some 47) (v := ?_) rfl (Or.inl ⟨by rfl, ?_⟩) ?_
                  rotate_left
                  · intro w hSw; (try dsimp only at hSw); go_simp; first | done | (with_reducible rfl)
                  simp only [Act.put, List.setIfInBounds_toArray, List.set_cons_zero, List.set_cons_succ]
                  refine wpTail.ready (rs := [33]) (by kernel_rfl) (by simp) ?_
                  refine AllTail.late rfl (by kernel_rfl) (fun K hK => ?_) AllTail.nil
                  go_simp
                  go_wp2_with (fail)
                  refine hK.out _ _ ?_
                  clear hK K
                  refine wpTail.done (by kernel_rfl) ?_ _
                  have HX := Lib.hid (HNX.out _ _ _ _ _ _ hS40)
                  clear l0 l1 l2 l3 l4 l5
                  go_wp2_with fail
                  go_roundg (N - (i + 1))
                  case measure => exact hms
                  case rel => exact ⟨i + 1, by simp, by omega, Nat.le_refl _, Lib.hid ⟨_, _, _, HX.out⟩⟩
            · go_simp
              go_wp2_with (fail)
              have hS41 := hS37.build 2 (4, .bool false) rfl rfl
              simp only [List.set_cons_zero, List.set_cons_succ] at hS41
              obtain ⟨z41, hz41⟩ : ∃ g, W37.heap.size = g := ⟨_, rfl⟩
              rw [hz41] at hS41 ⊢
              generalize hW41 : W37.alloc (.cells #[.bool false] 4) = W41 at hS41 ⊢
              clear hW41 hz41
              refine hK.out _ _ (HLD.out _ hS41.k) (fun hHeld => ?_)
              clear hK K
              refine wpTail.ready (rs := [18]) (by kernel_rfl) (by simp) ?_
              refine AllTail.cons rfl (fun K hK => ?_) (AllTail.nil)
              · refine hS41.app 1 oBd (Nat.le_trans hbY hS41.k.size) rfl (.tmp 33) (.tmp 34) rfl _ _ _ _ rfl rfl rfl rfl rfl (by simp [Act.eval, Act.put]) (by simp [Act.eval, Act.put]) HL1.out ?_
                intro A42 c42 W42 hS42
                simp only [List.set_cons_zero, List.set_cons_succ] at hS42
                refine hK.out _ _ (HLD.out _ hS42.k) (fun hHeld => ?_)
                clear hK K
                refine wpTail.ready (rs := [24]) (by kernel_rfl) (by simp) ?_
                refine AllTail.cons rfl (fun K hK => ?_) (AllTail.nil)
                · refine hS42.app 2 oBd (Nat.le_trans hbY hS42.k.size) rfl (.tmp 39) (.tmp 40) rfl _ _ _ _ rfl rfl rfl rfl rfl (by simp [Act.eval, Act.put]) (by simp [Act.eval, Act.put]) HL2.out ?_
                  intro A43 c43 W43 hS43
                  simp only [List.set_cons_zero, List.set_cons_succ] at hS43
                  refine hK.out _ _ (HLD.out _ hS43.k) (fun hHeld => ?_)
                  clear hK K
                  refine tail_pure 25 (some 42) (v := ?_) rfl (Or.inl ⟨by rfl, ?_⟩) (fun _ => hHeld) ?_
                  rotate_left
                  · intro w hSw; (try dsimp only at hSw); go_simp; first | done | (with_reducible rfl)
                  simp only [Act.put, List.setIfInBounds_toArray, List.set_cons_zero, List.set_cons_succ]
                  refine tail_pure 26 (some 43) (v := ?_) rfl (Or.inl ⟨by rfl, ?_⟩) (fun _ => hHeld) ?_
                  rotate_left
                  · intro w hSw; (try dsimp only at hSw); go_simp; first | done | (with_reducible rfl)
                  simp only [Act.put, List.setIfInBounds_toArray, List.set_cons_zero, List.set_cons_succ]
                  refine wpTail.ready (rs := [27]) (by kernel_rfl) (by simp) ?_
                  refine AllTail.late rfl (by kernel_rfl) (fun K hK => ?_) AllTail.nil
                  have hl6 := HLY.out _ hS43.k (.slice A37 (X0.length + 1) c37) (.slice A42 (X1.length + 1) c42)
                  have l0 := hl6.1.1
                  have l1 := hl6.1.2.1
                  have l2 := hl6.2.1.1
                  have l3 := hl6.2.1.2
                  have l4 := hl6.2.2.1
                  have l5 := hl6.2.2.2
                  clear hl6
                  go_simp
                  go_wp2_with (fail)
                  refine hK.out _ _ ?_
                  clear hK K
                  refine tail_late 28 (some 44) (v := ?_) rfl (Or.inl ⟨by rfl, ?_⟩) ?_
                  rotate_left
                  · intro w hSw; (try dsimp only at hSw); go_simp; first | done | (with_reducible rfl)
                  simp only [Act.put, List.setIfInBounds_toArray, List.set_cons_zero, List.set_cons_succ]
                  refine tail_late 29 (some 45) (v := ?_) rfl (Or.inl ⟨by rfl, ?_⟩) ?_
                  rotate_left
                  · intro w hSw; (try dsimp only at hSw); go_simp; first | done | (with_reducible rfl)
                  simp only [Act.put, List.setIfInBounds_toArray, List.set_cons_zero, List.set_cons_succ]
                  refine wpTail.ready (rs := [30]) (by kernel_rfl) (by simp) ?_
                  refine AllTail.late rfl (by kernel_rfl) (fun K hK => ?_) AllTail.nil
                  go_simp
                  go_wp2_with (fail)
                  refine hK.out _ _ ?_
                  clear hK K
                  refine tail_late 31 (some 46) (v := ?_) rfl (Or.inl ⟨by rfl, ?_⟩) ?_
                  rotate_left
                  · intro w hSw; (try dsimp only at hSw); go_simp; first | done | (with_reducible rfl)
                  simp only [Act.put, List.setIfInBounds_toArray, List.set_cons_zero, List.set_cons_succ]
                  refine tail_late 32 (some 47) (v := ?_) rfl (Or.inl ⟨by rfl, ?_⟩) ?_
                  rotate_left
                  · intro w hSw; (try dsimp only at hSw); go_simp; first | done | (with_reducible rfl)
                  simp only [Act.put, List.setIfInBounds_toArray, List.set_cons_zero, List.set_cons_succ]
                  refine wpTail.ready (rs := [33]) (by kernel_rfl) (by simp) ?_
                  refine AllTail.late rfl (by kernel_rfl) (fun K hK => ?_) AllTail.nil
                  go_simp
                  go_wp2_with (fail)
                  refine hK.out _ _ ?_
                  clear hK K
                  refine wpTail.done (by kernel_rfl) ?_ _
                  have HX := Lib.hid (HNX.out _ _ _ _ _ _ hS43)
                  clear l0 l1 l2 l3 l4 l5
                  go_wp2_with fail
                  go_roundg (N - (i + 1))
                  case measure => exact hms
                  case rel => exact ⟨i + 1, by simp, by omega, Nat.le_refl _, Lib.hid ⟨_, _, _, HX.out⟩⟩
          · go_simp
            go_wp2_with (fail)
            have hS44 := hS36.build 2 (4, .bool false) rfl rfl
            simp only [List.set_cons_zero, List.set_cons_succ] at hS44
            obtain ⟨z44, hz44⟩ : ∃ g, W36.heap.size = g := ⟨_, rfl⟩
            rw [hz44] at hS44 ⊢
            generalize hW44 : W36.alloc (.cells #[.bool false] 4) = W44 at hS44 ⊢
            clear hW44 hz44
            refine hK.out _ _ (HLD.out _ hS44.k) (fun hHeld => ?_)
            clear hK K
            refine wpTail.ready (rs := [12]) (by kernel_rfl) (by simp) ?_
            refine AllTail.cons rfl (fun K hK => ?_) (AllTail.nil)
            · refine hS44.app 0 o8 (Nat.le_trans hbY hS44.k.size) rfl (.tmp 23) (.tmp 28) rfl _ _ _ _ rfl rfl rfl rfl rfl (by simp [Act.eval, Act.put]) (by simp [Act.eval, Act.put]) HL0.out ?_
              intro A45 c45 W45 hS45
              simp only [List.set_cons_zero, List.set_cons_succ] at hS45
              refine hK.out _ _ (HLD.out _ hS45.k) (fun hHeld => ?_)
              clear hK K
              refine wpTail.ready (rs := [18]) (by kernel_rfl) (by simp) ?_
              refine AllTail.cons rfl (fun K hK => ?_) (AllTail.nil)
              · refine hS45.app 1 oBd (Nat.le_trans hbY hS45.k.size) rfl (.tmp 33) (.tmp 34) rfl _ _ _ _ rfl rfl rfl rfl rfl (by simp [Act.eval, Act.put]) (by simp [Act.eval, Act.put]) HL1.out ?_
                intro A46 c46 W46 hS46
                simp only [List.set_cons_zero, List.set_cons_succ] at hS46
                refine hK.out _ _ (HLD.out _ hS46.k) (fun hHeld => ?_)
                clear hK K
                refine wpTail.ready (rs := [24]) (by kernel_rfl) (by simp) ?_
                refine AllTail.cons rfl (fun K hK => ?_) (AllTail.nil)
                · refine hS46.app 2 oBd (Nat.le_trans hbY hS46.k.size) rfl (.tmp 39) (.tmp 40) rfl _ _ _ _ rfl rfl rfl rfl rfl (by simp [Act.eval, Act.put]) (by simp [Act.eval, Act.put]) HL2.out ?_
                  intro A47 c47 W47 hS47
                  simp only [List.set_cons_zero, List.set_cons_succ] at hS47
                  refine hK.out _ _ (HLD.out _ hS47.k) (fun hHeld => ?_)
                  clear hK K
                  refine tail_pure 25 (some 42) (v := ?_) rfl (Or.inl ⟨by rfl, ?_⟩) (fun _ => hHeld) ?_
                  rotate_left
                  · intro w hSw; (try dsimp only at hSw); go_simp; first | done | (with_reducible rfl)
                  simp only [Act.put, List.setIfInBounds_toArray, List.set_cons_zero, List.set_cons_succ]
                  refine tail_pure 26 (some 43) (v := ?_) rfl (Or.inl ⟨by rfl, ?_⟩) (fun _ => hHeld) ?_
                  rotate_left
                  · intro w hSw; (try dsimp only at hSw); go_simp; first | done | (with_reducible rfl)
                  simp only [Act.put, List.setIfInBounds_toArray, List.set_cons_zero, List.set_cons_succ]
                  refine wpTail.ready (rs := [27]) (by kernel_rfl) (by simp) ?_
                  refine AllTail.late rfl (by kernel_rfl) (fun K hK => ?_) AllTail.nil
                  have hl6 := HLY.out _ hS47.k (.slice A45 (X0.length + 1) c45) (.slice A46 (X1.length + 1) c46)
                  have l0 := hl6.1.1
                  have l1 := hl6.1.2.1
                  have l2 := hl6.2.1.1
                  have l3 := hl6.2.1.2
                  have l4 := hl6.2.2.1
                  have l5 := hl6.2.2.2
                  clear hl6
                  go_simp
                  go_wp2_with (fail)
                  refine hK.out _ _ ?_
                  clear hK K
                  refine tail_late 28 (some 44) (v := ?_) rfl (Or.inl ⟨by rfl, ?_⟩) ?_
                  rotate_left
                  · intro w hSw; (try dsimp only at hSw); go_simp; first | done | (with_reducible rfl)
                  simp only [Act.put, List.setIfInBounds_toArray, List.set_cons_zero, List.set_cons_succ]
                  refine tail_late 29 (some 45) (v := ?_) rfl (Or.inl ⟨by rfl, ?_⟩) ?_
                  rotate_left
                  · intro w hSw; (try dsimp only at hSw); go_simp; first | done | (with_reducible rfl)
                  simp only [Act.put, List.setIfInBounds_toArray, List.set_cons_zero, List.set_cons_succ]
                  refine wpTail.ready (rs := [30]) (by kernel_rfl) (by simp) ?_
                  refine AllTail.late rfl (by kernel_rfl) (fun K hK => ?_) AllTail.nil
                  go_simp
                  go_wp2_with (fail)
                  refine hK.out _ _ ?_
                  clear hK K
                  refine tail_late 31 (some 46) (v := ?_) rfl (Or.inl ⟨by rfl, ?_⟩) ?_
                  rotate_left
                  · intro w hSw; (try dsimp only at hSw); go_simp; first | done | (with_reducible rfl)
                  simp only [Act.put, List.setIfInBounds_toArray, List.set_cons_zero, List.set_cons_succ]
                  refine tail_late 32 (some 47) (v := ?_) rfl (Or.inl ⟨by rfl, ?_⟩) ?_
                  rotate_left
                  · intro w hSw; (try dsimp only at hSw); go_simp; first | done | (with_reducible rfl)
                  simp only [Act.put, List.setIfInBounds_toArray, List.set_cons_zero, List.set_cons_succ]
                  refine wpTail.ready (rs := [33]) (by kernel_rfl) (by simp) ?_
                  refine AllTail.late rfl (by kernel_rfl) (fun K hK => ?_) AllTail.nil
                  go_simp
                  go_wp2_with (fail)
                  refine hK.out _ _ ?_
                  clear hK K
                  refine wpTail.done (by kernel_rfl) ?_ _
                  have HX := Lib.hid (HNX.out _ _ _ _ _ _ hS47)
                  clear l0 l1 l2 l3 l4 l5
                  go_wp2_with fail
                  go_roundg (N - (i + 1))
                  case measure => exact hms
                  case rel => exact ⟨i + 1, by simp, by omega, Nat.le_refl _, Lib.hid ⟨_, _, _, HX.out⟩⟩
        · go_simp
          go_wp2_with (fail)
          have hS48 := hS35.build 2 (4, .bool false) rfl rfl
          simp only [List.set_cons_zero, List.set_cons_succ] at hS48
          obtain ⟨z48, hz48⟩ : ∃ g, W35.heap.size = g := ⟨_, rfl⟩
          rw [hz48] at hS48 ⊢
          generalize hW48 : W35.alloc (.cells #[.bool false] 4) = W48 at hS48 ⊢
          clear hW48 hz48
          refine hK.out _ _ (HLD.out _ hS48.k) (fun hHeld => ?_)
          clear hK K
          refine wpTail.ready (rs := [11]) (by kernel_rfl) (by simp) ?_
          refine AllTail.cons rfl (fun K hK => ?_) (AllTail.nil)
          · go_simp
            go_wp2_with (fail)
            have hS49 := hS48.build 0 (5, .int .u8 x) rfl rfl
            simp only [List.set_cons_zero, List.set_cons_succ] at hS49
            obtain ⟨z49, hz49⟩ : ∃ g, W48.heap.size = g := ⟨_, rfl⟩
            rw [hz49] at hS49 ⊢
            generalize hW49 : W48.alloc (.cells #[.int .u8 x] 5) = W49 at hS49 ⊢
            clear hW49 hz49
            refine hK.out _ _ (HLD.out _ hS49.k) (fun hHeld => ?_)
            clear hK K
            refine wpTail.ready (rs := [12]) (by kernel_rfl) (by simp) ?_
            refine AllTail.cons rfl (fun K hK => ?_) (AllTail.nil)
            · refine hS49.app 0 o8 (Nat.le_trans hbY hS49.k.size) rfl (.tmp 23) (.tmp 28) rfl _ _ _ _ rfl rfl rfl rfl rfl (by simp [Act.eval, Act.put]) (by simp [Act.eval, Act.put]) HL0.out ?_
              intro A50 c50 W50 hS50
              simp only [List.set_cons_zero, List.set_cons_succ] at hS50
              refine hK.out _ _ (HLD.out _ hS50.k) (fun hHeld => ?_)
              clear hK K
              refine wpTail.ready (rs := [18]) (by kernel_rfl) (by simp) ?_
              refine AllTail.cons rfl (fun K hK => ?_) (AllTail.nil)
              · refine hS50.app 1 oBd (Nat.le_trans hbY hS50.k.size) rfl (.tmp 33) (.tmp 34) rfl _ _ _ _ rfl rfl rfl rfl rfl (by simp [Act.eval, Act.put]) (by simp [Act.eval, Act.put]) HL1.out ?_
                intro A51 c51 W51 hS51
                simp only [List.set_cons_zero, List.set_cons_succ] at hS51
                refine hK.out _ _ (HLD.out _ hS51.k) (fun hHeld => ?_)
                clear hK K
                refine wpTail.ready (rs := [24]) (by kernel_rfl) (by simp) ?_
                refine AllTail.cons rfl (fun K hK => ?_) (AllTail.nil)
                · refine hS51.app 2 oBd (Nat.le_trans hbY hS51.k.size) rfl (.tmp 39) (.tmp 40) rfl _ _ _ _ rfl rfl rfl rfl rfl (by simp [Act.eval, Act.put]) (by simp [Act.eval, Act.put]) HL2.out ?_
                  intro A52 c52 W52 hS52
                  simp only [List.set_cons_zero, List.set_cons_succ] at hS52
                  refine hK.out _ _ (HLD.out _ hS52.k) (fun hHeld => ?_)
                  clear hK K
                  refine tail_pure 25 (some 42) (v := ?_) rfl (Or.inl ⟨by rfl, ?_⟩) (fun _ => hHeld) ?_
                  rotate_left
                  · intro w hSw; (try dsimp only at hSw); go_simp; first | done | (with_reducible rfl)
                  simp only [Act.put, List.setIfInBounds_toArray, List.set_cons_zero, List.set_cons_succ]
                  refine tail_pure 26 (some 43) (v := ?_) rfl (Or.inl ⟨by rfl, ?_⟩) (fun _ => hHeld) ?_
                  rotate_left
                  · intro w hSw; (try dsimp only at hSw); go_simp; first | done | (with_reducible rfl)
                  simp only [Act.put, List.setIfInBounds_toArray, List.set_cons_zero, List.set_cons_succ]
                  refine wpTail.ready (rs := [27]) (by kernel_rfl) (by simp) ?_
                  refine AllTail.late rfl (by kernel_rfl) (fun K hK => ?_) AllTail.nil
                  have hl6 := HLY.out _ hS52.k (.slice A50 (X0.length + 1) c50) (.slice A51 (X1.length + 1) c51)
                  have l0 := hl6.1.1
                  have l1 := hl6.1.2.1
                  have l2 := hl6.2.1.1
                  have l3 := hl6.2.1.2
                  have l4 := hl6.2.2.1
                  have l5 := hl6.2.2.2
                  clear hl6
                  go_simp
                  go_wp2_with (fail)
                  refine hK.out _ _ ?_
                  clear hK K
                  refine tail_late 28 (some 44) (v := ?_) rfl (Or.inl ⟨by rfl, ?_⟩) ?_
                  rotate_left
                  · intro w hSw; (try dsimp only at hSw); go_simp; first | done | (with_reducible rfl)
                  simp only [Act.put, List.setIfInBounds_toArray, List.set_cons_zero, List.set_cons_succ]
                  refine tail_late 29 (some 45) (v := ?_) rfl (Or.inl ⟨by rfl, ?_⟩) ?_
                  rotate_left
                  · intro w hSw; (try dsimp only at hSw); go_simp; first | done | (with_reducible rfl)
                  simp only [Act.put, List.setIfInBounds_toArray, List.set_cons_zero, List.set_cons_succ]
                  refine wpTail.ready (rs := [30]) (by kernel_rfl) (by simp) ?_
                  refine AllTail.late rfl (by kernel_rfl) (fun K hK => ?_) AllTail.nil
                  go_simp
                  go_wp2_with (fail)
                  refine hK.out _ _ ?_
                  clear hK K
                  refine tail_late 31 (some 46) (v := ?_) rfl (Or.inl ⟨by rfl, ?_⟩) ?_
                  rotate_left
                  · intro w hSw; (try dsimp only at hSw); go_simp; first | done | (with_reducible rfl)
                  simp only [Act.put, List.setIfInBounds_toArray, List.set_cons_zero, List.set_cons_succ]
                  refine tail_late 32 (some 47) (v := ?_) rfl (Or.inl ⟨by rfl, ?_⟩) ?_
                  rotate_left
                  · intro w hSw; (try dsimp only at hSw); go_simp; first | done | (with_reducible rfl)
                  simp only [Act.put, List.setIfInBounds_toArray, List.set_cons_zero, List.set_cons_succ]
                  refine wpTail.ready (rs := [33]) (by kernel_rfl) (by simp) ?_
                  refine AllTail.late rfl (by kernel_rfl) (fun K hK => ?_) AllTail.nil
                  go_simp
                  go_wp2_with (fail)
                  refine hK.out _ _ ?_
                  clear hK K
                  refine wpTail.done (by kernel_rfl) ?_ _
                  have HX := Lib.hid (HNX.out _ _ _ _ _ _ hS52)
                  clear l0 l1 l2 l3 l4 l5
                  go_wp2_with fail
                  go_roundg (N - (i + 1))
                  case measure => exact hms
                  case rel => exact ⟨i + 1, by simp, by omega, Nat.le_refl _, Lib.hid ⟨_, _, _, HX.out⟩⟩
      · go_simp
        go_wp2_with (fail)
        have hS53 := hS0.build 2 (4, .bool false) rfl rfl
        simp only [List.set_cons_zero, List.set_cons_succ] at hS53
        obtain ⟨z53, hz53⟩ : ∃ g, Y.heap.size = g := ⟨_, rfl⟩
        rw [hz53] at hS53 ⊢
        generalize hW53 : Y.alloc (.cells #[.bool false] 4) = W53 at hS53 ⊢
        clear hW53 hz53
        refine hK.out _ _ (HLD.out _ hS53.k) (fun hHeld => ?_)
        clear hK K
        refine wpTail.ready (rs := [11, 17]) (by kernel_rfl) (by simp) ?_
        refine AllTail.cons rfl (fun K hK => ?_) (AllTail.cons rfl (fun K hK => ?_) (AllTail.nil))
        · go_simp
          go_wp2_with (fail)
          have hS54 := hS53.build 0 (5, .int .u8 x) rfl rfl
          simp only [List.set_cons_zero, List.set_cons_succ] at hS54
          obtain ⟨z54, hz54⟩ : ∃ g, W53.heap.size = g := ⟨_, rfl⟩
          rw [hz54] at hS54 ⊢
          generalize hW54 : W53.alloc (.cells #[.int .u8 x] 5) = W54 at hS54 ⊢
          clear hW54 hz54
          refine hK.out _ _ (HLD.out _ hS54.k) (fun hHeld => ?_)
          clear hK K
          refine wpTail.ready (rs := [12, 17]) (by kernel_rfl) (by simp) ?_
          refine AllTail.cons rfl (fun K hK => ?_) (AllTail.cons rfl (fun K hK => ?_) (AllTail.nil))
          · refine hS54.app 0 o8 (Nat.le_trans hbY hS54.k.size) rfl (.tmp 23) (.tmp 28) rfl _ _ _ _ rfl rfl rfl rfl rfl (by simp [Act.eval, Act.put]) (by simp [Act.eval, Act.put]) HL0.out ?_
            intro A55 c55 W55 hS55
            simp only [List.set_cons_zero, List.set_cons_succ] at hS55
            refine hK.out _ _ (HLD.out _ hS55.k) (fun hHeld => ?_)
            clear hK K
            refine wpTail.ready (rs := [17]) (by kernel_rfl) (by simp) ?_
            refine AllTail.cons rfl (fun K hK => ?_) (AllTail.nil)
            · go_simp
              go_wp2_with (fail)
              have hS56 := hS55.build 1 (4, .bool false) rfl rfl
              simp only [List.set_cons_zero, List.set_cons_succ] at hS56
              obtain ⟨z56, hz56⟩ : ∃ g, W55.heap.size = g := ⟨_, rfl⟩
              rw [hz56] at hS56 ⊢
              generalize hW56 : W55.alloc (.cells #[.bool false] 4) = W56 at hS56 ⊢
              clear hW56 hz56
              refine hK.out _ _ (HLD.out _ hS56.k) (fun hHeld => ?_)
              clear hK K
              refine wpTail.ready (rs := [18]) (by kernel_rfl) (by simp) ?_
              refine AllTail.cons rfl (fun K hK => ?_) (AllTail.nil)
              · refine hS56.app 1 oBd (Nat.le_trans hbY hS56.k.size) rfl (.tmp 33) (.tmp 34) rfl _ _ _ _ rfl rfl rfl rfl rfl (by simp [Act.eval, Act.put]) (by simp [Act.eval, Act.put]) HL1.out ?_
                intro A57 c57 W57 hS57
                simp only [List.set_cons_zero, List.set_cons_succ] at hS57
                refine hK.out _ _ (HLD.out _ hS57.k) (fun hHeld => ?_)
                clear hK K
                refine wpTail.ready (rs := [24]) (by kernel_rfl) (by simp) ?_
                refine AllTail.cons rfl (fun K hK => ?_) (AllTail.nil)
                · refine hS57.app 2 oBd (Nat.le_trans hbY hS57.k.size) rfl (.tmp 39) (.tmp 40) rfl _ _ _ _ rfl rfl rfl rfl rfl (by simp [Act.eval, Act.put]) (by simp [Act.eval, Act.put]) HL2.out ?_
                  intro A58 c58 W58 hS58
                  simp only [List.set_cons_zero, List.set_cons_succ] at hS58
                  refine hK.out _ _ (HLD.out _ hS58.k) (fun hHeld => ?_)
                  clear hK K
                  refine tail_pure 25 (some 42) (v := ?_) rfl (Or.inl ⟨by rfl, ?_⟩) (fun _ => hHeld) ?_
                  rotate_left
                  · intro w hSw; (try dsimp only at hSw); go_simp; first | done | (with_reducible rfl)
                  simp only [Act.put, List.setIfInBounds_toArray, List.set_cons_zero, List.set_cons_succ]
                  refine tail_pure 26 (some 43) (v := ?_) rfl (Or.inl ⟨by rfl, ?_⟩) (fun _ => hHeld) ?_
                  rotate_left
                  · intro w hSw; (try dsimp only at hSw); go_simp; first | done | (with_reducible rfl)
                  simp only [Act.put, List.setIfInBounds_toArray, List.set_cons_zero, List.set_cons_succ]
                  refine wpTail.ready (rs := [27]) (by kernel_rfl) (by simp) ?_
                  refine AllTail.late rfl (by kernel_rfl) (fun K hK => ?_) AllTail.nil
                  have hl6 := HLY.out _ hS58.k (.slice A55 (X0.length + 1) c55) (.slice A57 (X1.length + 1) c57)
                  have l0 := hl6.1.1
                  have l1 := hl6.1.2.1
                  have l2 := hl6.2.1.1
                  have l3 := hl6.2.1.2
                  have l4 := hl6.2.2.1
                  have l5 := hl6.2.2.2
                  clear hl6
                  go_simp
                  go_wp2_with (fail)
                  refine hK.out _ _ ?_
                  clear hK K
                  refine tail_late 28 (some 44) (v := ?_) rfl (Or.inl ⟨by rfl, ?_⟩) ?_
                  rotate_left
                  · intro w hSw; (try dsimp only at hSw); go_simp; first | done | (with_reducible rfl)
                  simp only [Act.put, List.setIfInBounds_toArray, List.set_cons_zero, List.set_cons_succ]
                  refine tail_late 29 (some 45) (v := ?_) rfl (Or.inl ⟨by rfl, ?_⟩) ?_
                  rotate_left
                  · intro w hSw; (try dsimp only at hSw); go_simp; first | done | (with_reducible rfl)
                  simp only [Act.put, List.setIfInBounds_toArray, List.set_cons_zero, List.set_cons_succ]
                  refine wpTail.ready (rs := [30]) (by kernel_rfl) (by simp) ?_
                  refine AllTail.late rfl (by kernel_rfl) (fun K hK => ?_) AllTail.nil
                  go_simp
                  go_wp2_with (fail)
                  refine hK.out _ _ ?_
                  clear hK K
                  refine tail_late 31 (some 46) (v := ?_) rfl (Or.inl ⟨by rfl, ?_⟩) ?_
                  rotate_left
                  · intro w hSw; (try dsimp only at hSw); go_simp; first | done | (with_reducible rfl)
                  simp only [Act.put, List.setIfInBounds_toArray, List.set_cons_zero, List.set_cons_succ]
                  refine tail_late 32 (some 47) (v := ?_) rfl (Or.inl ⟨by rfl, ?_⟩) ?_
                  rotate_left
                  · intro w hSw; (try dsimp only at hSw); go_simp; first | done | (with_reducible rfl)
                  simp only [Act.put, List.setIfInBounds_toArray, List.set_cons_zero, List.set_cons_succ]
                  refine wpTail.ready (rs := [33]) (by kernel_rfl) (by simp) ?_
                  refine AllTail.late rfl (by kernel_rfl) (fun K hK => ?_) AllTail.nil
                  go_simp
                  go_wp2_with (fail)
                  refine hK.out _ _ ?_
                  clear hK K
                  refine wpTail.done (by kernel_rfl) ?_ _
                  have HX := Lib.hid (HNX.out _ _ _ _ _ _ hS58)
                  clear l0 l1 l2 l3 l4 l5
                  go_wp2_with fail
                  go_roundg (N - (i + 1))
                  case measure => exact hms
                  case rel => exact ⟨i + 1, by simp, by omega, Nat.le_refl _, Lib.hid ⟨_, _, _, HX.out⟩⟩
          · go_simp
            go_wp2_with (fail)
            have hS59 := hS54.build 1 (4, .bool false) rfl rfl
            simp only [List.set_cons_zero, List.set_cons_succ] at hS59
            obtain ⟨z59, hz59⟩ : ∃ g, W54.heap.size = g := ⟨_, rfl⟩
            rw [hz59] at hS59 ⊢
            generalize hW59 : W54.alloc (.cells #[.bool false] 4) = W59 at hS59 ⊢
            clear hW59 hz59
            refine hK.out _ _ (HLD.out _ hS59.k) (fun hHeld => ?_)
            clear hK K
            refine wpTail.ready (rs := [12]) (by kernel_rfl) (by simp) ?_
            refine AllTail.cons rfl (fun K hK => ?_) (AllTail.nil)
            · refine hS59.app 0 o8 (Nat.le_trans hbY hS59.k.size) rfl (.tmp 23) (.tmp 28) rfl _ _ _ _ rfl rfl rfl rfl rfl (by simp [Act.eval, Act.put]) (by simp [Act.eval, Act.put]) HL0.out ?_
              intro A60 c60 W60 hS60
              simp only [List.set_cons_zero, List.set_cons_succ] at hS60
              refine hK.out _ _ (HLD.out _ hS60.k) (fun hHeld => ?_)
              clear hK K
              refine wpTail.ready (rs := [18]) (by kernel_rfl) (by simp) ?_
              refine AllTail.cons rfl (fun K hK => ?_) (AllTail.nil)
              · refine hS60.app 1 oBd (Nat.le_trans hbY hS60.k.size) rfl (.tmp 33) (.tmp 34) rfl _ _ _ _ rfl rfl rfl rfl rfl (by simp [Act.eval, Act.put]) (by simp [Act.eval, Act.put]) HL1.out ?_
                intro A61 c61 W61 hS61
                simp only [List.set_cons_zero, List.set_cons_succ] at hS61
                refine hK.out _ _ (HLD.out _ hS61.k) (fun hHeld => ?_)
                clear hK K
                refine wpTail.ready (rs := [24]) (by kernel_rfl) (by simp) ?_
                refine AllTail.cons rfl (fun K hK => ?_) (AllTail.nil)
                · refine hS61.app 2 oBd (Nat.le_trans hbY hS61.k.size) rfl (.tmp 39) (.tmp 40) rfl _ _ _ _ rfl rfl rfl rfl rfl (by simp [Act.eval, Act.put]) (by simp [Act.eval, Act.put]) HL2.out ?_
                  intro A62 c62 W62 hS62
                  simp only [List.set_cons_zero, List.set_cons_succ] at hS62
                  refine hK.out _ _ (HLD.out _ hS62.k) (fun hHeld => ?_)
                  clear hK K
                  refine tail_pure 25 (some 42) (v := ?_) rfl (Or.inl ⟨by rfl, ?_⟩) (fun _ => hHeld) ?_
                  rotate_left
                  · intro w hSw; (try dsimp only at hSw); go_simp; first | done | (with_reducible rfl)
                  simp only [Act.put, List.setIfInBounds_toArray, List.set_cons_zero, List.set_cons_succ]
                  refine tail_pure 26 (some 43) (v := ?_) rfl (Or.inl ⟨by rfl, ?_⟩) (fun _ => hHeld) ?_
                  rotate_left
                  · intro w hSw; (try dsimp only at hSw); go_simp; first | done | (with_reducible rfl)
                  simp only [Act.put, List.setIfInBounds_toArray, List.set_cons_zero, List.set_cons_succ]
                  refine wpTail.ready (rs := [27]) (by kernel_rfl) (by simp) ?_
                  refine AllTail.late rfl (by kernel_rfl) (fun K hK => ?_) AllTail.nil
                  have hl6 := HLY.out _ hS62.k (.slice A60 (X0.length + 1) c60) (.slice A61 (X1.length + 1) c61)
                  have l0 := hl6.1.1
                  have l1 := hl6.1.2.1
                  have l2 := hl6.2.1.1
                  have l3 := hl6.2.1.2
                  have l4 := hl6.2.2.1
                  have l5 := hl6.2.2.2
                  clear hl6
                  go_simp
                  go_wp2_with (fail)
                  refine hK.out _ _ ?_
                  clear hK K
                  refine tail_late 28 (some 44) (v := ?_) rfl (Or.inl ⟨by rfl, ?_⟩) ?_
                  rotate_left
                  · intro w hSw; (try dsimp only at hSw); go_simp; first | done | (with_reducible rfl)
                  simp only [Act.put, List.setIfInBounds_toArray, List.set_cons_zero, List.set_cons_succ]
                  refine tail_late 29 (some 45) (v := ?_) rfl (Or.inl ⟨by rfl, ?_⟩) ?_
                  rotate_left
                  · intro w hSw; (try dsimp only at hSw); go_simp; first | done | (with_reducible rfl)
                  simp only [Act.put, List.setIfInBounds_toArray, List.set_cons_zero, List.set_cons_succ]
                  refine wpTail.ready (rs := [30]) (by kernel_rfl) (by simp) ?_
                  refine AllTail.late rfl (by kernel_rfl) (fun K hK => ?_) AllTail.nil
                  go_simp
                  go_wp2_with (fail)
                  refine hK.out _ _ ?_
                  clear hK K
                  refine tail_late 31 (some 46) (v := ?_) rfl (Or.inl ⟨by rfl, ?_⟩) ?_
                  rotate_left
                  · intro w hSw; (try dsimp only at hSw); go_simp; first | done | (with_reducible rfl)
                  simp only [Act.put, List.setIfInBounds_toArray, List.set_cons_zero, List.set_cons_succ]
                  refine tail_late 32 (some 47) (v := ?_) rfl (Or.inl ⟨by rfl, ?_⟩) ?_
                  rotate_left
                  · intro w hSw; (try dsimp only at hSw); go_simp; first | done | (with_reducible rfl)
                  simp only [Act.put, List.setIfInBounds_toArray, List.set_cons_zero, List.set_cons_succ]
                  refine wpTail.ready (rs := [33]) (by kernel_rfl) (by simp) ?_
                  refine AllTail.late rfl (by kernel_rfl) (fun K hK => ?_) AllTail.nil
                  go_simp
                  go_wp2_with (fail)
                  refine hK.out _ _ ?_
                  clear hK K
                  refine wpTail.done (by kernel_rfl) ?_ _
                  have HX := Lib.hid (HNX.out _ _ _ _ _ _ hS62)
                  clear l0 l1 l2 l3 l4 l5
                  go_wp2_with fail
                  go_roundg (N - (i + 1))
                  case measure => exact hms
                  case rel => exact ⟨i + 1, by simp, by omega, Nat.le_refl _, Lib.hid ⟨_, _, _, HX.out⟩⟩
        · go_simp
          go_wp2_with (fail)
          have hS63 := hS53.build 1 (4, .bool false) rfl rfl
          simp only [List.set_cons_zero, List.set_cons_succ] at hS63
          obtain ⟨z63, hz63⟩ : ∃ g, W53.heap.size = g := ⟨_, rfl⟩
          rw [hz63] at hS63 ⊢
          generalize hW63 : W53.alloc (.cells #[.bool false] 4) = W63 at hS63 ⊢
          clear hW63 hz63
          refine hK.out _ _ (HLD.out _ hS63.k) (fun hHeld => ?_)
          clear hK K
          refine wpTail.ready (rs := [11]) (by kernel_rfl) (by simp) ?_
          refine AllTail.cons rfl (fun K hK => ?_) (AllTail.nil)
          · go_simp
            go_wp2_with (fail)
            have hS64 := hS63.build 0 (5, .int .u8 x) rfl rfl
            simp only [List.set_cons_zero, List.set_cons_succ] at hS64
            obtain ⟨z64, hz64⟩ : ∃ g, W63.heap.size = g := ⟨_, rfl⟩
            rw [hz64] at hS64 ⊢
            generalize hW64 : W63.alloc (.cells #[.int .u8 x] 5) = W64 at hS64 ⊢
            clear hW64 hz64
            refine hK.out _ _ (HLD.out _ hS64.k) (fun hHeld => ?_)
            clear hK K
            refine wpTail.ready (rs := [12]) (by kernel_rfl) (by simp) ?_
            refine AllTail.cons rfl (fun K hK => ?_) (AllTail.nil)
            · refine hS64.app 0 o8 (Nat.le_trans hbY hS64.k.size) rfl (.tmp 23) (.tmp 28) rfl _ _ _ _ rfl rfl rfl rfl rfl (by simp [Act.eval, Act.put]) (by simp [Act.eval, Act.put]) HL0.out ?_
              intro A65 c65 W65 hS65
              simp only [List.set_cons_zero, List.set_cons_succ] at hS65
              refine hK.out _ _ (HLD.out _ hS65.k) (fun hHeld => ?_)
              clear hK K
              refine wpTail.ready (rs := [18]) (by kernel_rfl) (by simp) ?_
              refine AllTail.cons rfl (fun K hK => ?_) (AllTail.nil)
              · refine hS65.app 1 oBd (Nat.le_trans hbY hS65.k.size) rfl (.tmp 33) (.tmp 34) rfl _ _ _ _ rfl rfl rfl rfl rfl (by simp [Act.eval, Act.put]) (by simp [Act.eval, Act.put]) HL1.out ?_
                intro A66 c66 W66 hS66
                simp only [List.set_cons_zero, List.set_cons_succ] at hS66
                refine hK.out _ _ (HLD.out _ hS66.k) (fun hHeld => ?_)
                clear hK K
                refine wpTail.ready (rs := [24]) (by kernel_rfl) (by simp) ?_
                refine AllTail.cons rfl (fun K hK => ?_) (AllTail.nil)
                · refine hS66.app 2 oBd (Nat.le_trans hbY hS66.k.size) rfl (.tmp 39) (.tmp 40) rfl _ _ _ _ rfl rfl rfl rfl rfl (by simp [Act.eval, Act.put]) (by simp [Act.eval, Act.put]) HL2.out ?_
                  intro A67 c67 W67 hS67
                  simp only [List.set_cons_zero, List.set_cons_succ] at hS67
                  refine hK.out _ _ (HLD.out _ hS67.k) (fun hHeld => ?_)
                  clear hK K
                  refine tail_pure 25 (some 42) (v := ?_) rfl (Or.inl ⟨by rfl, ?_⟩) (fun _ => hHeld) ?_
                  rotate_left
                  · intro w hSw; (try dsimp only at hSw); go_simp; first | done | (with_reducible rfl)
                  simp only [Act.put, List.setIfInBounds_toArray, List.set_cons_zero, List.set_cons_succ]
                  refine tail_pure 26 (some 43) (v := ?_) rfl (Or.inl ⟨by rfl, ?_⟩) (fun _ => hHeld) ?_
                  rotate_left
                  · intro w hSw; (try dsimp only at hSw); go_simp; first | done | (with_reducible rfl)
                  simp only [Act.put, List.setIfInBounds_toArray, List.set_cons_zero, List.set_cons_succ]
                  refine wpTail.ready (rs := [27]) (by kernel_rfl) (by simp) ?_
                  refine AllTail.late rfl (by kernel_rfl) (fun K hK => ?_) AllTail.nil
                  have hl6 := HLY.out _ hS67.k (.slice A65 (X0.length + 1) c65) (.slice A66 (X1.length + 1) c66)
                  have l0 := hl6.1.1
                  have l1 := hl6.1.2.1
                  have l2 := hl6.2.1.1
                  have l3 := hl6.2.1.2
                  have l4 := hl6.2.2.1
                  have l5 := hl6.2.2.2
                  clear hl6
                  go_simp
                  go_wp2_with (fail)
                  refine hK.out _ _ ?_
                  clear hK K
                  refine tail_late 28 (some 44) (v := ?_) rfl (Or.inl ⟨by rfl, ?_⟩) ?_
                  rotate_left
                  · intro w hSw; (try dsimp only at hSw); go_simp; first | done | (with_reducible rfl)
                  simp only [Act.put, List.setIfInBounds_toArray, List.set_cons_zero, List.set_cons_succ]
                  refine tail_late 29 (some 45) (v := ?_) rfl (Or.inl ⟨by rfl, ?_⟩) ?_
                  rotate_left
                  · intro w hSw; (try dsimp only at hSw); go_simp; first | done | (with_reducible rfl)
                  simp only [Act.put, List.setIfInBounds_toArray, List.set_cons_zero, List.set_cons_succ]
                  refine wpTail.ready (rs := [30]) (by kernel_rfl) (by simp) ?_
                  refine AllTail.late rfl (by kernel_rfl) (fun K hK => ?_) AllTail.nil
                  go_simp
                  go_wp2_with (fail)
                  refine hK.out _ _ ?_
                  clear hK K
                  refine tail_late 31 (some 46) (v := ?_) rfl (Or.inl ⟨by rfl, ?_⟩) ?_
                  rotate_left
                  · intro w hSw; (try dsimp only at hSw); go_simp; first | done | (with_reducible rfl)
                  simp only [Act.put, List.setIfInBounds_toArray, List.set_cons_zero, List.set_cons_succ]
                  refine tail_late 32 (some 47) (v := ?_) rfl (Or.inl ⟨by rfl, ?_⟩) ?_
                  rotate_left
                  · intro w hSw; (try dsimp only at hSw); go_simp; first | done | (with_reducible rfl)
                  simp only [Act.put, List.setIfInBounds_toArray, List.set_cons_zero, List.set_cons_succ]
                  refine wpTail.ready (rs := [33]) (by kernel_rfl) (by simp) ?_
                  refine AllTail.late rfl (by kernel_rfl) (fun K hK => ?_) AllTail.nil
                  go_simp
                  go_wp2_with (fail)
                  refine hK.out _ _ ?_
                  clear hK K
                  refine wpTail.done (by kernel_rfl) ?_ _
                  have HX := Lib.hid (HNX.out _ _ _ _ _ _ hS67)
                  clear l0 l1 l2 l3 l4 l5
                  go_wp2_with fail
                  go_roundg (N - (i + 1))
                  case measure => exact hms
                  case rel => exact ⟨i + 1, by simp, by omega, Nat.le_refl _, Lib.hid ⟨_, _, _, HX.out⟩⟩
    · obtain rfl : i = N := by omega
      have hiz : ¬ (i : Int) < (i : Int) := by omega
      have HZ : Hid (RsPost (.int .i64 i) base q o T L O S' w (.returned (.int .i64 i)) wr) := Lib.hid (by
        obtain ⟨vb, va, vg, hw⟩ := HI.out
        exact HEND.out _ _ _ _ hw)
      clear HI HEND
      go_wp2
      go_ret
      exact HZ.out
end
end Go.Proofs.YtbejpafephofaaaGreat
