/-
  A long head of an Initial, behind its first byte (head.readLong).
-/
import Derived.Test.YtehdilgnlhhjdaaHr2
import Derived.IntWalk
namespace Go.Proofs.Ytehdilgnlhhjdaa
section
set_option linter.unusedVariables false
set_option linter.unusedSimpArgs false
open Go.RowKit
set_option maxRecDepth 100000 in
set_option maxHeartbeats 2000000 in
theorem rlong_0 (p : Nat) (T : TypeId) (P : Nat → Prop) (s : St) (w : World) (hr : Rdr w p T P s) (hP : ∀ b, P b → b ≠ p) (hl : s.1.length ≤ 1000000) (hv0 : twoR s = 0) (hv1 : twoR (takeN s 2) = 1) :
    Calls Try.prog 92 #[.pointer (some ⟨p, 0, none⟩), .int .i64 0] w (RLPost w p T P (takeN (takeN s 2) 2) 0) := by
  have hpl : p < w.heap.size := by obtain ⟨_, _, _, h, _⟩ := hr; exact h.lt
  have hr' := hr.mono (P' := fun b => P b ∧ b < w.heap.size) (fun b hb hP => ⟨hP, hb⟩)
  have hP' : ∀ b, (P b ∧ b < w.heap.size) → b ≠ p := fun b hb => hP b hb.1
  have hrA : Rdr (w.alloc (.cells (hdL HN.zero Sl.nil).toArray 30)) p T (fun b => P b ∧ b < w.heap.size) s :=
    hr'.kept ((Kept.refl (fun _ => False) w).alloc _) (fun h => h) (fun _ _ h => h)
  have hA0 : At (w.alloc (.cells (hdL HN.zero Sl.nil).toArray 30)) w.heap.size 30 (hdL HN.zero Sl.nil) := At.new w _ _
  have hk0 : Kept (· = p) w (w.alloc (.cells (hdL HN.zero Sl.nil).toArray 30)) := (Kept.refl _ _).alloc _
  have hl1 := takeN_le s 2
  have hl2 := takeN_le (takeN s 2) 2
  have hO : bits BinOp.or IntKind.u32 0 1 = 1 := by decide
  have HV0 := Lib.hid hv0
  have HV1 := Lib.hid hv1
  clear hv0 hv1 hr hr'
  obtain ⟨s2, hs2⟩ : ∃ x, takeN (takeN s 2) 2 = x := ⟨_, rfl⟩
  have HS2 := Lib.hid hs2
  rw [hs2] at hl2 ⊢
  clear hs2
  have hl3 := lgN_le s2
  have hl4 := lgN_le (lgN s2)
  obtain ⟨B1, hB1⟩ : ∃ b, (byteR s2 == 8) = b := ⟨_, rfl⟩
  obtain ⟨B2, hB2⟩ : ∃ b, (byteR (lgN s2) == 8) = b := ⟨_, rfl⟩
  obtain ⟨n1, hn1⟩ : ∃ b, N8.of (lgR s2) = b := ⟨_, rfl⟩
  obtain ⟨n2, hn2⟩ : ∃ b, N8.of (lgR (lgN s2)) = b := ⟨_, rfl⟩
  have HB1 := Lib.hid hB1
  have HB2 := Lib.hid hB2
  have HN1 := Lib.hid hn1
  have HN2 := Lib.hid hn2
  clear hB1 hB2 hn1 hn2
  obtain ⟨s3, hs3⟩ : ∃ x, lgN s2 = x := ⟨_, rfl⟩
  have HS3 := Lib.hid hs3
  rw [hs3] at hl3 hl4
  clear hs3
  obtain ⟨s4, hs4⟩ : ∃ x, lgN s3 = x := ⟨_, rfl⟩
  have HS4 := Lib.hid hs4
  rw [hs4] at hl4
  clear hs4
  obtain ⟨t0, t1, t2, t3, t4, t5, t6, t7⟩ := n1
  obtain ⟨f0, f1, f2, f3, f4, f5, f6, f7⟩ := n2
  go_enter Try.func92, Try.ntmps92
  go_wp2_with fail
  refine (two_any p T _ s _ hrA hP').mono ?_
  rintro e w1 ⟨rfl, hr1, hk1⟩
  rw [HV0.out]
  have hA1 := hA0.kept hk1 (by omega)
  have hk01 := hk0.trans hk1
  go_wp2_with fail
  refine (two_any p T _ (takeN s 2) w1 hr1 hP').mono ?_
  rintro e w2 ⟨rfl, hr2, hk2⟩
  rw [HV1.out]
  rw [HS2.out] at hr2
  have hA2 := hA1.kept hk2 (by omega)
  have hk02 := hk01.trans hk2
  clear hk1 hk2 hk01 hk0 hrA hA0 hr1 hA1
  have hz2 := hA2.lt
  go_wp2_with fail
  refine (lname_any p T _ s2 w2 hr2 hP' (by omega)).mono ?_
  rintro e w3 ⟨rfl, hr3, hk3⟩
  rw [HB1.out, HN1.out]
  rw [HS3.out] at hr3
  have hA3 := hA2.kept hk3 (by omega)
  have hk03 := hk02.trans hk3
  have hz3 := hA3.lt
  clear hk3 hk02 hr2 hA2
  have hr3a := hr3.kept ((Kept.refl (fun _ => False) w3).alloc (.cells ([.int .u8 t0, .int .u8 t1, .int .u8 t2, .int .u8 t3, .int .u8 t4, .int .u8 t5, .int .u8 t6, .int .u8 t7] : List Value).toArray 27)) (fun h => h) (fun _ _ h => h)
  have hA3a := hA3.alloc (.cells ([.int .u8 t0, .int .u8 t1, .int .u8 t2, .int .u8 t3, .int .u8 t4, .int .u8 t5, .int .u8 t6, .int .u8 t7] : List Value).toArray 27)
  have hT3a := At.new w3 27 [.int .u8 t0, .int .u8 t1, .int .u8 t2, .int .u8 t3, .int .u8 t4, .int .u8 t5, .int .u8 t6, .int .u8 t7]
  have hk3a := hk03.alloc (.cells ([.int .u8 t0, .int .u8 t1, .int .u8 t2, .int .u8 t3, .int .u8 t4, .int .u8 t5, .int .u8 t6, .int .u8 t7] : List Value).toArray 27)
  go_wp2_with (first | (refine wpList_store_top (ty := 27) w3 27 (List.replicate 8 (Value.int .u8 0)) [.int .u8 t0, .int .u8 t1, .int .u8 t2, .int .u8 t3, .int .u8 t4, .int .u8 t5, .int .u8 t6, .int .u8 t7] (by rfl) _ (by rfl) (by rfl) (by rfl) (by rfl) cid_info (by rfl) ?_) | fail)
  obtain ⟨w3a, hw3a⟩ : ∃ x, w3.alloc (.cells ([.int .u8 t0, .int .u8 t1, .int .u8 t2, .int .u8 t3, .int .u8 t4, .int .u8 t5, .int .u8 t6, .int .u8 t7] : List Value).toArray 27) = x := ⟨_, rfl⟩
  rw [hw3a] at hr3a hA3a hT3a hk3a ⊢
  clear hw3a hr3 hA3 hk03
  obtain ⟨g8, hg8⟩ : ∃ g, w3.heap.size = g := ⟨_, rfl⟩
  rw [hg8] at hT3a hz3 ⊢
  have hz3a := hT3a.lt
  clear hg8
  refine (lname_any p T _ s3 w3a hr3a hP' (by omega)).mono ?_
  rintro e w4 ⟨rfl, hr4, hk4⟩
  rw [← HS3.out, HB2.out, HN2.out]
  rw [HS4.out] at hr4
  have hA4 := hA3a.kept hk4 (by omega)
  have hT4 := hT3a.kept hk4 (by omega)
  have hk04 := hk3a.trans hk4
  have hz4 := hT4.lt
  clear hk4 hk3a hr3a hA3a hT3a
  have hr4a := hr4.kept ((Kept.refl (fun _ => False) w4).alloc (.cells ([.int .u8 f0, .int .u8 f1, .int .u8 f2, .int .u8 f3, .int .u8 f4, .int .u8 f5, .int .u8 f6, .int .u8 f7] : List Value).toArray 27)) (fun h => h) (fun _ _ h => h)
  have hA4a := hA4.alloc (.cells ([.int .u8 f0, .int .u8 f1, .int .u8 f2, .int .u8 f3, .int .u8 f4, .int .u8 f5, .int .u8 f6, .int .u8 f7] : List Value).toArray 27)
  have hT4a := hT4.alloc (.cells ([.int .u8 f0, .int .u8 f1, .int .u8 f2, .int .u8 f3, .int .u8 f4, .int .u8 f5, .int .u8 f6, .int .u8 f7] : List Value).toArray 27)
  have hF4a := At.new w4 27 [.int .u8 f0, .int .u8 f1, .int .u8 f2, .int .u8 f3, .int .u8 f4, .int .u8 f5, .int .u8 f6, .int .u8 f7]
  have hk4a := hk04.alloc (.cells ([.int .u8 f0, .int .u8 f1, .int .u8 f2, .int .u8 f3, .int .u8 f4, .int .u8 f5, .int .u8 f6, .int .u8 f7] : List Value).toArray 27)
  have hH5 : At ((w4.alloc (.cells ([.int .u8 f0, .int .u8 f1, .int .u8 f2, .int .u8 f3, .int .u8 f4, .int .u8 f5, .int .u8 f6, .int .u8 f7] : List Value).toArray 27)).alloc (.cells (hdL ⟨0, ⟨t0, t1, t2, t3, t4, t5, t6, t7⟩, ⟨f0, f1, f2, f3, f4, f5, f6, f7⟩, 1, false⟩ Sl.nil).toArray 30)) (w4.heap.size + 1) 30 (hdL ⟨0, ⟨t0, t1, t2, t3, t4, t5, t6, t7⟩, ⟨f0, f1, f2, f3, f4, f5, f6, f7⟩, 1, false⟩ Sl.nil) := At.new_ _ _ _ (by simp)
  have hr5 := hr4a.kept ((Kept.refl (fun _ => False) _).alloc (.cells (hdL ⟨0, ⟨t0, t1, t2, t3, t4, t5, t6, t7⟩, ⟨f0, f1, f2, f3, f4, f5, f6, f7⟩, 1, false⟩ Sl.nil).toArray 30)) (fun h => h) (fun _ _ h => h)
  have hA5 := hA4a.alloc (.cells (hdL ⟨0, ⟨t0, t1, t2, t3, t4, t5, t6, t7⟩, ⟨f0, f1, f2, f3, f4, f5, f6, f7⟩, 1, false⟩ Sl.nil).toArray 30)
  have hk5 := hk4a.alloc (.cells (hdL ⟨0, ⟨t0, t1, t2, t3, t4, t5, t6, t7⟩, ⟨f0, f1, f2, f3, f4, f5, f6, f7⟩, 1, false⟩ Sl.nil).toArray 30)
  obtain ⟨w5, hw5⟩ : ∃ x, (w4.alloc (.cells ([.int .u8 f0, .int .u8 f1, .int .u8 f2, .int .u8 f3, .int .u8 f4, .int .u8 f5, .int .u8 f6, .int .u8 f7] : List Value).toArray 27)).alloc (.cells (hdL ⟨0, ⟨t0, t1, t2, t3, t4, t5, t6, t7⟩, ⟨f0, f1, f2, f3, f4, f5, f6, f7⟩, 1, false⟩ Sl.nil).toArray 30) = x := ⟨_, rfl⟩
  rw [hw5] at hH5 hr5 hA5 hk5
  have hz5 := hH5.lt
  clear hr4 hA4 hT4 hk04 hr4a hA4a hk4a
  go_wp2_with (first | (refine wpList_store_top (ty := 27) w4 27 (List.replicate 8 (Value.int .u8 0)) [.int .u8 f0, .int .u8 f1, .int .u8 f2, .int .u8 f3, .int .u8 f4, .int .u8 f5, .int .u8 f6, .int .u8 f7] (by rfl) _ (by rfl) (by rfl) (by rfl) (by rfl) cid_info (by rfl) ?_) | (refine wpList_load_at (x := .tmp 8) (ty := 27) g8 _ [.int .u8 t0, .int .u8 t1, .int .u8 t2, .int .u8 t3, .int .u8 t4, .int .u8 t5, .int .u8 t6, .int .u8 t7] _ (by rfl) hT4a Try.underlying27 rfl cid_info ?_) | (refine wpList_load_at (x := .tmp 10) (ty := 27) w4.heap.size _ [.int .u8 f0, .int .u8 f1, .int .u8 f2, .int .u8 f3, .int .u8 f4, .int .u8 f5, .int .u8 f6, .int .u8 f7] _ (by rfl) hF4a Try.underlying27 rfl cid_info ?_) | ((with_reducible refine at_sth ?_); refine wpList_store_top (w4.alloc (.cells ([.int .u8 f0, .int .u8 f1, .int .u8 f2, .int .u8 f3, .int .u8 f4, .int .u8 f5, .int .u8 f6, .int .u8 f7] : List Value).toArray 27)) 30 (hdL HN.zero Sl.nil) (hdL ⟨0, ⟨t0, t1, t2, t3, t4, t5, t6, t7⟩, ⟨f0, f1, f2, f3, f4, f5, f6, f7⟩, 1, false⟩ Sl.nil) (by rfl) _ (by rfl) (by simp) (by rfl) (by rfl) hd_info (by rfl) ?_; rw [hw5]) | fail)
  clear hT4a hF4a hw5

  have htok : tokR s4 0 = textR s4 ∧ tokN s4 0 = textN s4 := by unfold tokR tokN; rw [if_pos rfl, if_pos rfl]; exact ⟨rfl, rfl⟩
  have HTOK := Lib.hid htok
  clear htok
  refine (text_any p T _ s4 w5 hr5 hP' (by omega)).mono ?_
  rintro e w6 ⟨v6, rfl, hown, hr6, hk6⟩
  obtain ⟨N, hN⟩ : ∃ N, (textR s4).length = N := ⟨_, rfl⟩
  have HNN := Lib.hid hN
  obtain ⟨tA, tc, rfl, q1, q2, q3⟩ := hown.open_n N hN
  have hin6 := hown.inD_ hN
  have hH6 := hH5.kept hk6 (by omega)
  have hA6 := hA5.kept hk6 (by omega)
  have hk06 := hk5.trans hk6
  have hs6 := hk6.size
  have c17 : w6.cell? ⟨w4.heap.size + 1, 17, none⟩ = some (.slice none 0 0) := hH6.cell 17
  have f17 := hH6.frozen 17
  have hH7 : At (w6.setCell ⟨w4.heap.size + 1, 17, none⟩ (.slice tA N tc)) (w4.heap.size + 1) 30 (hdL ⟨0, ⟨t0, t1, t2, t3, t4, t5, t6, t7⟩, ⟨f0, f1, f2, f3, f4, f5, f6, f7⟩, 1, false⟩ ⟨tA, N, tc⟩) := hH6.set 17 _
  have hkk : Kept (· = w4.heap.size + 1) w6 (w6.setCell ⟨w4.heap.size + 1, 17, none⟩ (.slice tA N tc)) := (Kept.refl _ _).setAt _ _
  have hr7 := hr6.kept hkk (by omega) (fun b hb e => by omega)
  have hA7 := hA6.kept hkk (by omega)
  have hk07 := hk06.trans' hkk (fun j hj => .inr (by omega))
  have hin7 := (hin6.kept hkk (fun b hb e => by omega)).mono (P' := fun b => w.heap.size < b ∧ b ≠ p) (fun b _ hb => by omega)
  clear hN hown q3 hr6 hH5 hA5 hr5 hk5 hin6 hA6 hk06 hH6 hkk
  go_wp2_with fail
  obtain ⟨w7, hw7⟩ : ∃ x, w6.setCell ⟨w4.heap.size + 1, 17, none⟩ (.slice tA N tc) = x := ⟨_, rfl⟩
  rw [hw7] at hH7 hr7 hA7 hk07 hin7 ⊢
  clear hw7 c17 f17 hk6
  obtain ⟨s5, hs5⟩ : ∃ x, textN s4 = x := ⟨_, rfl⟩
  rw [hs5] at hr7
  have HS5 := Lib.hid hs5
  clear hs5
  have hc7 : w7.cell? ⟨w4.heap.size + 1, 17, none⟩ = some (.slice tA N tc) := hH7.cell 17
  obtain ⟨g12, hg12⟩ : ∃ g, w4.heap.size + 1 = g := ⟨_, rfl⟩
  rw [hg12] at hH7 hc7 hz5 ⊢
  obtain ⟨L, hL⟩ : ∃ L, hdL ⟨0, ⟨t0, t1, t2, t3, t4, t5, t6, t7⟩, ⟨f0, f1, f2, f3, f4, f5, f6, f7⟩, 1, false⟩ ⟨tA, N, tc⟩ = L := ⟨_, rfl⟩
  have hLl : L.length = 20 := by rw [← hL]; rfl
  have hL17 : L[17]? = some (.slice tA N tc) := by rw [← hL]; rfl
  have HL17 := Lib.hid hL17
  clear hL17
  have hLo : L.all (·.oneCell') = true := by rw [← hL]; rfl
  have hLv : hdV ⟨0, ⟨t0, t1, t2, t3, t4, t5, t6, t7⟩, ⟨f0, f1, f2, f3, f4, f5, f6, f7⟩, 1, false⟩ ⟨tA, N, tc⟩ = .agg L.toArray := by rw [← hL]; rfl
  rw [hL] at hH7
  have hg12p : p < g12 ∧ w.heap.size < g12 := by omega
  have HLl := Lib.hid hLl
  have HLo := Lib.hid hLo
  have HLv := Lib.hid hLv
  clear hL hLl hLo hLv hg12 hl1 hl2 hl3 hl4
  have hH7 := hH7.drew
  have hA7 := hA7.drew
  have hr7 := hr7.drewN 1
  have hk07 := hk07.drewN 1
  have hc7' : w7.drew.cell? ⟨g12, 17, none⟩ = some (.slice tA N tc) := hc7
  have hin7 := hin7.kept ((Kept.refl (fun _ => False) w7).drewN 1) (fun _ _ h => h)
  have hz7 := hH7.lt
  clear hc7
  cases B1
  case false =>
    refine wp_region_held_drew (S := (fun w' => w'.cell? ⟨g12, 17, none⟩ = some (.slice tA N tc) ∧ w'.rangeAt g12 0 L)) (by kernel_rfl) (⟨hc7', hH7.rangeAt⟩) (fun hHeld => ?_)
    refine tk_dst (i := 0) (dst := some 51) rfl rfl (by kernel_rfl) (by kernel_rfl) (by kernel_rfl) (fun _ _ _ h => h) (v := ?_) ?_ (by assumption) ?_
    rotate_left
    · refine yl_any 30 ?ylx0 ?ylo0 ?ylb0 ?ylq0 ?ylp0 L _ ?ylS0 Try.underlying30 rfl ?yli0 ?ylw0
      case ylo0 => rfl
      case ylp0 => rfl
      case ylS0 => intro w hSw; exact hSw.2
      case yli0 => rw [HLl.out]; exact hd_info
      case ylw0 => rfl
    simp only [Act.put, List.setIfInBounds_toArray, List.set_cons_zero, List.set_cons_succ]
    refine tk_dst (i := 1) (dst := some 52) rfl rfl (by kernel_rfl) (by kernel_rfl) (by kernel_rfl) (fun _ _ _ h => h) (v := ?_) (Or.inl ⟨by rfl, ?_⟩) (by assumption) ?_
    rotate_left
    · intro w hSw; (try dsimp only at hSw); go_simp; first | done | (with_reducible rfl)
    simp only [Act.put, List.setIfInBounds_toArray, List.set_cons_zero, List.set_cons_succ]
    refine tk_dst (i := 3) (dst := some 54) rfl rfl (by kernel_rfl) (by kernel_rfl) (by kernel_rfl) (fun _ _ _ h => h) (v := ?_) (Or.inl ⟨by rfl, ?_⟩) (by assumption) ?_
    rotate_left
    · intro w hSw; (try dsimp only at hSw); go_simp; first | done | (with_reducible rfl)
    simp only [Act.put, List.setIfInBounds_toArray, List.set_cons_zero, List.set_cons_succ]
    refine wpAnyH_ready (rs := [2]) (by kernel_rfl) (by simp) ?_
    refine AllReadyH.cons rfl (fun K hK => ?_) AllReadyH.nil
    go_simp
    go_wp2_with ((go_at_call 101; refine (var_any p T _ s5 _ hr7 hP').mono ?_; rintro e w8 ⟨rfl, hr8, hk8⟩; have hH8 := hH7.kept hk8 (by omega); have hA8 := hA7.kept hk8 (by omega); have hc8 := (hH8.cell 17).trans HL17.out))
    refine hK.out _ _ (⟨hc8, hH8.rangeAt⟩) (fun hHeld => ?_)
    clear hK K
    refine tk_dst (i := 4) (dst := some 55) rfl rfl (by kernel_rfl) (by kernel_rfl) (by kernel_rfl) (fun _ _ _ h => h) (v := ?_) (Or.inl ⟨by rfl, ?_⟩) (by assumption) ?_
    rotate_left
    · intro w hSw; (try dsimp only at hSw); go_simp; first | done | (with_reducible rfl)
    simp only [Act.put, List.setIfInBounds_toArray, List.set_cons_zero, List.set_cons_succ]
    refine tk_dst (i := 5) (dst := some 56) rfl rfl (by kernel_rfl) (by kernel_rfl) (by kernel_rfl) (fun _ _ _ h => h) (v := undef) (Or.inr ⟨by rfl, rfl⟩) (by assumption) ?_
    simp only [Act.put, List.setIfInBounds_toArray, List.set_cons_zero, List.set_cons_succ]
    refine tk_dst (i := 6) (dst := some 57) rfl rfl (by kernel_rfl) (by kernel_rfl) (by kernel_rfl) (fun _ _ _ h => h) (v := ?_) (Or.inl ⟨by rfl, ?_⟩) (by assumption) ?_
    rotate_left
    · intro w hSw; (try dsimp only at hSw); go_simp; first | done | (with_reducible rfl)
    simp only [Act.put, List.setIfInBounds_toArray, List.set_cons_zero, List.set_cons_succ]
    refine tk_dst (i := 7) (dst := some 58) rfl rfl (by kernel_rfl) (by kernel_rfl) (by kernel_rfl) (fun _ _ _ h => h) (v := ?_) (Or.inl ⟨by rfl, ?_⟩) (by assumption) ?_
    rotate_left
    · intro w hSw; (try dsimp only at hSw); go_simp; first | done | (with_reducible rfl)
    simp only [Act.put, List.setIfInBounds_toArray, List.set_cons_zero, List.set_cons_succ]
    refine tk_dst (i := 8) (dst := some 59) rfl rfl (by kernel_rfl) (by kernel_rfl) (by kernel_rfl) (fun _ _ _ h => h) (v := undef) (Or.inr ⟨by rfl, rfl⟩) (by assumption) ?_
    simp only [Act.put, List.setIfInBounds_toArray, List.set_cons_zero, List.set_cons_succ]
    refine tk_dst (i := 9) (dst := some 60) rfl rfl (by kernel_rfl) (by kernel_rfl) (by kernel_rfl) (fun _ _ _ h => h) (v := undef) (Or.inr ⟨by rfl, rfl⟩) (by assumption) ?_
    simp only [Act.put, List.setIfInBounds_toArray, List.set_cons_zero, List.set_cons_succ]
    refine tk_dst (i := 10) (dst := some 61) rfl rfl (by kernel_rfl) (by kernel_rfl) (by kernel_rfl) (fun _ _ _ h => h) (v := undef) (Or.inr ⟨by rfl, rfl⟩) (by assumption) ?_
    simp only [Act.put, List.setIfInBounds_toArray, List.set_cons_zero, List.set_cons_succ]
    refine tk_dst (i := 11) (dst := some 62) rfl rfl (by kernel_rfl) (by kernel_rfl) (by kernel_rfl) (fun _ _ _ h => h) (v := undef) (Or.inr ⟨by rfl, rfl⟩) (by assumption) ?_
    simp only [Act.put, List.setIfInBounds_toArray, List.set_cons_zero, List.set_cons_succ]
    refine tk_dst (i := 12) (dst := some 63) rfl rfl (by kernel_rfl) (by kernel_rfl) (by kernel_rfl) (fun _ _ _ h => h) (v := ?_) (Or.inl ⟨by rfl, ?_⟩) (by assumption) ?_
    rotate_left
    · intro w hSw; (try dsimp only at hSw); go_simp; first | done | (with_reducible rfl)
    simp only [Act.put, List.setIfInBounds_toArray, List.set_cons_zero, List.set_cons_succ]
    refine wpAnyH_ready (rs := [13]) (by kernel_rfl) (by simp) ?_
    refine AllReadyH.cons rfl (fun K hK => ?_) AllReadyH.nil
    refine step_st_any (by rfl) w.heap.size 30 (hdL HN.zero Sl.nil) L (by rfl) (by rfl) hA8 (by rw [HLl.out]; rfl) (by rw [HLl.out]; exact hd_info) HLo.out ?_
    intro w9 hA9 hk9
    have hH9 := hH8.kept hk9 (by omega)
    have hc9 := (hH9.cell 17).trans HL17.out
    refine hK.out _ _ ⟨hc9, hH9.rangeAt⟩ (fun hHeld => ?_)
    clear hK K
    refine tk_dst (i := 14) (dst := some 5) rfl rfl (by kernel_rfl) (by kernel_rfl) (by kernel_rfl) (fun _ _ _ h => h) (v := ?_) (Or.inl ⟨by rfl, ?_⟩) (by assumption) ?_
    rotate_left
    · intro w hSw; (try dsimp only at hSw); go_simp; first | done | (with_reducible rfl)
    simp only [Act.put, List.setIfInBounds_toArray, List.set_cons_zero, List.set_cons_succ]
    refine tk_dst (i := 15) (dst := some 6) rfl rfl (by kernel_rfl) (by kernel_rfl) (by kernel_rfl) (fun _ _ _ h => h) (v := ?_) (Or.inl ⟨by rfl, ?_⟩) (by assumption) ?_
    rotate_left
    · intro w hSw; (try dsimp only at hSw); go_simp; first | done | (with_reducible rfl)
    simp only [Act.put, List.setIfInBounds_toArray, List.set_cons_zero, List.set_cons_succ]
    refine wpAnyH_done (by kernel_rfl) ?_ _
    go_wp2_with fail
    refine bodyPost_ret (results_cell_tmp2 4 5 6 30 (by rfl) _ 30 _ _ _ _ (by rfl) (by rfl) (by rfl) hA9 Try.underlying30 rfl (by rw [HLl.out]; exact hd_info)) rfl ?_
    refine ⟨⟨tA, N, tc⟩, ?_, ?_, ?_, (hk07.trans hk8).trans' hk9 (fun j hj => .inr (by omega))⟩
    · rw [HN1.out, HN2.out, HB1.out, HB2.out, HS3.out, HS4.out, HTOK.out.2, HTOK.out.1, HLv.out]
      rw [HS5.out, HNN.out]; simp; try omega
    · rw [HS3.out, HS4.out, HTOK.out.1]
      exact ((hin7.kept hk8 (fun b hb e => by omega)).kept hk9 (fun b hb e => by omega)).mono (fun b _ hb => by omega)
    · rw [HS3.out, HS4.out, HTOK.out.2, HS5.out]
      exact (hr8.kept hk9 (by omega) (fun b hb e => by omega)).mono (fun b _ hb => hb.1)
  case true =>
    cases B2
    case false =>
      refine wp_region_held_drew (S := (fun w' => w'.cell? ⟨g12, 17, none⟩ = some (.slice tA N tc) ∧ w'.rangeAt g12 0 L)) (by kernel_rfl) (⟨hc7', hH7.rangeAt⟩) (fun hHeld => ?_)
      refine tk_dst (i := 0) (dst := some 51) rfl rfl (by kernel_rfl) (by kernel_rfl) (by kernel_rfl) (fun _ _ _ h => h) (v := ?_) ?_ (by assumption) ?_
      rotate_left
      · refine yl_any 30 ?ylx0 ?ylo0 ?ylb0 ?ylq0 ?ylp0 L _ ?ylS0 Try.underlying30 rfl ?yli0 ?ylw0
        case ylo0 => rfl
        case ylp0 => rfl
        case ylS0 => intro w hSw; exact hSw.2
        case yli0 => rw [HLl.out]; exact hd_info
        case ylw0 => rfl
      simp only [Act.put, List.setIfInBounds_toArray, List.set_cons_zero, List.set_cons_succ]
      refine tk_dst (i := 1) (dst := some 52) rfl rfl (by kernel_rfl) (by kernel_rfl) (by kernel_rfl) (fun _ _ _ h => h) (v := ?_) (Or.inl ⟨by rfl, ?_⟩) (by assumption) ?_
      rotate_left
      · intro w hSw; (try dsimp only at hSw); go_simp; first | done | (with_reducible rfl)
      simp only [Act.put, List.setIfInBounds_toArray, List.set_cons_zero, List.set_cons_succ]
      refine tk_dst (i := 3) (dst := some 54) rfl rfl (by kernel_rfl) (by kernel_rfl) (by kernel_rfl) (fun _ _ _ h => h) (v := ?_) (Or.inl ⟨by rfl, ?_⟩) (by assumption) ?_
      rotate_left
      · intro w hSw; (try dsimp only at hSw); go_simp; first | done | (with_reducible rfl)
      simp only [Act.put, List.setIfInBounds_toArray, List.set_cons_zero, List.set_cons_succ]
      refine wpAnyH_ready (rs := [2]) (by kernel_rfl) (by simp) ?_
      refine AllReadyH.cons rfl (fun K hK => ?_) AllReadyH.nil
      go_simp
      go_wp2_with ((go_at_call 101; refine (var_any p T _ s5 _ hr7 hP').mono ?_; rintro e w8 ⟨rfl, hr8, hk8⟩; have hH8 := hH7.kept hk8 (by omega); have hA8 := hA7.kept hk8 (by omega); have hc8 := (hH8.cell 17).trans HL17.out))
      refine hK.out _ _ (⟨hc8, hH8.rangeAt⟩) (fun hHeld => ?_)
      clear hK K
      refine tk_dst (i := 4) (dst := some 55) rfl rfl (by kernel_rfl) (by kernel_rfl) (by kernel_rfl) (fun _ _ _ h => h) (v := ?_) (Or.inl ⟨by rfl, ?_⟩) (by assumption) ?_
      rotate_left
      · intro w hSw; (try dsimp only at hSw); go_simp; first | done | (with_reducible rfl)
      simp only [Act.put, List.setIfInBounds_toArray, List.set_cons_zero, List.set_cons_succ]
      refine tk_dst (i := 5) (dst := some 56) rfl rfl (by kernel_rfl) (by kernel_rfl) (by kernel_rfl) (fun _ _ _ h => h) (v := ?_) (Or.inl ⟨by rfl, ?_⟩) (by assumption) ?_
      rotate_left
      · intro w hSw; (try dsimp only at hSw); go_simp; first | done | (with_reducible rfl)
      simp only [Act.put, List.setIfInBounds_toArray, List.set_cons_zero, List.set_cons_succ]
      refine tk_dst (i := 6) (dst := some 57) rfl rfl (by kernel_rfl) (by kernel_rfl) (by kernel_rfl) (fun _ _ _ h => h) (v := ?_) (Or.inl ⟨by rfl, ?_⟩) (by assumption) ?_
      rotate_left
      · intro w hSw; (try dsimp only at hSw); go_simp; first | done | (with_reducible rfl)
      simp only [Act.put, List.setIfInBounds_toArray, List.set_cons_zero, List.set_cons_succ]
      refine tk_dst (i := 7) (dst := some 58) rfl rfl (by kernel_rfl) (by kernel_rfl) (by kernel_rfl) (fun _ _ _ h => h) (v := ?_) (Or.inl ⟨by rfl, ?_⟩) (by assumption) ?_
      rotate_left
      · intro w hSw; (try dsimp only at hSw); go_simp; first | done | (with_reducible rfl)
      simp only [Act.put, List.setIfInBounds_toArray, List.set_cons_zero, List.set_cons_succ]
      refine tk_dst (i := 8) (dst := some 59) rfl rfl (by kernel_rfl) (by kernel_rfl) (by kernel_rfl) (fun _ _ _ h => h) (v := undef) (Or.inr ⟨by rfl, rfl⟩) (by assumption) ?_
      simp only [Act.put, List.setIfInBounds_toArray, List.set_cons_zero, List.set_cons_succ]
      refine tk_dst (i := 9) (dst := some 60) rfl rfl (by kernel_rfl) (by kernel_rfl) (by kernel_rfl) (fun _ _ _ h => h) (v := undef) (Or.inr ⟨by rfl, rfl⟩) (by assumption) ?_
      simp only [Act.put, List.setIfInBounds_toArray, List.set_cons_zero, List.set_cons_succ]
      refine tk_dst (i := 10) (dst := some 61) rfl rfl (by kernel_rfl) (by kernel_rfl) (by kernel_rfl) (fun _ _ _ h => h) (v := undef) (Or.inr ⟨by rfl, rfl⟩) (by assumption) ?_
      simp only [Act.put, List.setIfInBounds_toArray, List.set_cons_zero, List.set_cons_succ]
      refine tk_dst (i := 11) (dst := some 62) rfl rfl (by kernel_rfl) (by kernel_rfl) (by kernel_rfl) (fun _ _ _ h => h) (v := undef) (Or.inr ⟨by rfl, rfl⟩) (by assumption) ?_
      simp only [Act.put, List.setIfInBounds_toArray, List.set_cons_zero, List.set_cons_succ]
      refine tk_dst (i := 12) (dst := some 63) rfl rfl (by kernel_rfl) (by kernel_rfl) (by kernel_rfl) (fun _ _ _ h => h) (v := ?_) (Or.inl ⟨by rfl, ?_⟩) (by assumption) ?_
      rotate_left
      · intro w hSw; (try dsimp only at hSw); go_simp; first | done | (with_reducible rfl)
      simp only [Act.put, List.setIfInBounds_toArray, List.set_cons_zero, List.set_cons_succ]
      refine wpAnyH_ready (rs := [13]) (by kernel_rfl) (by simp) ?_
      refine AllReadyH.cons rfl (fun K hK => ?_) AllReadyH.nil
      refine step_st_any (by rfl) w.heap.size 30 (hdL HN.zero Sl.nil) L (by rfl) (by rfl) hA8 (by rw [HLl.out]; rfl) (by rw [HLl.out]; exact hd_info) HLo.out ?_
      intro w9 hA9 hk9
      have hH9 := hH8.kept hk9 (by omega)
      have hc9 := (hH9.cell 17).trans HL17.out
      refine hK.out _ _ ⟨hc9, hH9.rangeAt⟩ (fun hHeld => ?_)
      clear hK K
      refine tk_dst (i := 14) (dst := some 5) rfl rfl (by kernel_rfl) (by kernel_rfl) (by kernel_rfl) (fun _ _ _ h => h) (v := ?_) (Or.inl ⟨by rfl, ?_⟩) (by assumption) ?_
      rotate_left
      · intro w hSw; (try dsimp only at hSw); go_simp; first | done | (with_reducible rfl)
      simp only [Act.put, List.setIfInBounds_toArray, List.set_cons_zero, List.set_cons_succ]
      refine tk_dst (i := 15) (dst := some 6) rfl rfl (by kernel_rfl) (by kernel_rfl) (by kernel_rfl) (fun _ _ _ h => h) (v := ?_) (Or.inl ⟨by rfl, ?_⟩) (by assumption) ?_
      rotate_left
      · intro w hSw; (try dsimp only at hSw); go_simp; first | done | (with_reducible rfl)
      simp only [Act.put, List.setIfInBounds_toArray, List.set_cons_zero, List.set_cons_succ]
      refine wpAnyH_done (by kernel_rfl) ?_ _
      go_wp2_with fail
      refine bodyPost_ret (results_cell_tmp2 4 5 6 30 (by rfl) _ 30 _ _ _ _ (by rfl) (by rfl) (by rfl) hA9 Try.underlying30 rfl (by rw [HLl.out]; exact hd_info)) rfl ?_
      refine ⟨⟨tA, N, tc⟩, ?_, ?_, ?_, (hk07.trans hk8).trans' hk9 (fun j hj => .inr (by omega))⟩
      · rw [HN1.out, HN2.out, HB1.out, HB2.out, HS3.out, HS4.out, HTOK.out.2, HTOK.out.1, HLv.out]
        rw [HS5.out, HNN.out]; simp; try omega
      · rw [HS3.out, HS4.out, HTOK.out.1]
        exact ((hin7.kept hk8 (fun b hb e => by omega)).kept hk9 (fun b hb e => by omega)).mono (fun b _ hb => by omega)
      · rw [HS3.out, HS4.out, HTOK.out.2, HS5.out]
        exact (hr8.kept hk9 (by omega) (fun b hb e => by omega)).mono (fun b _ hb => hb.1)
    case true =>
      refine wp_region_held_drew (S := (fun w' => w'.cell? ⟨g12, 17, none⟩ = some (.slice tA N tc) ∧ w'.rangeAt g12 0 L)) (by kernel_rfl) (⟨hc7', hH7.rangeAt⟩) (fun hHeld => ?_)
      refine tk_dst (i := 0) (dst := some 51) rfl rfl (by kernel_rfl) (by kernel_rfl) (by kernel_rfl) (fun _ _ _ h => h) (v := ?_) ?_ (by assumption) ?_
      rotate_left
      · refine yl_any 30 ?ylx0 ?ylo0 ?ylb0 ?ylq0 ?ylp0 L _ ?ylS0 Try.underlying30 rfl ?yli0 ?ylw0
        case ylo0 => rfl
        case ylp0 => rfl
        case ylS0 => intro w hSw; exact hSw.2
        case yli0 => rw [HLl.out]; exact hd_info
        case ylw0 => rfl
      simp only [Act.put, List.setIfInBounds_toArray, List.set_cons_zero, List.set_cons_succ]
      refine tk_dst (i := 1) (dst := some 52) rfl rfl (by kernel_rfl) (by kernel_rfl) (by kernel_rfl) (fun _ _ _ h => h) (v := ?_) (Or.inl ⟨by rfl, ?_⟩) (by assumption) ?_
      rotate_left
      · intro w hSw; (try dsimp only at hSw); go_simp; first | done | (with_reducible rfl)
      simp only [Act.put, List.setIfInBounds_toArray, List.set_cons_zero, List.set_cons_succ]
      refine tk_dst (i := 3) (dst := some 54) rfl rfl (by kernel_rfl) (by kernel_rfl) (by kernel_rfl) (fun _ _ _ h => h) (v := ?_) (Or.inl ⟨by rfl, ?_⟩) (by assumption) ?_
      rotate_left
      · intro w hSw; (try dsimp only at hSw); go_simp; first | done | (with_reducible rfl)
      simp only [Act.put, List.setIfInBounds_toArray, List.set_cons_zero, List.set_cons_succ]
      refine wpAnyH_ready (rs := [2]) (by kernel_rfl) (by simp) ?_
      refine AllReadyH.cons rfl (fun K hK => ?_) AllReadyH.nil
      go_simp
      go_wp2_with ((go_at_call 101; refine (var_any p T _ s5 _ hr7 hP').mono ?_; rintro e w8 ⟨rfl, hr8, hk8⟩; have hH8 := hH7.kept hk8 (by omega); have hA8 := hA7.kept hk8 (by omega); have hc8 := (hH8.cell 17).trans HL17.out))
      refine hK.out _ _ (⟨hc8, hH8.rangeAt⟩) (fun hHeld => ?_)
      clear hK K
      refine tk_dst (i := 4) (dst := some 55) rfl rfl (by kernel_rfl) (by kernel_rfl) (by kernel_rfl) (fun _ _ _ h => h) (v := ?_) (Or.inl ⟨by rfl, ?_⟩) (by assumption) ?_
      rotate_left
      · intro w hSw; (try dsimp only at hSw); go_simp; first | done | (with_reducible rfl)
      simp only [Act.put, List.setIfInBounds_toArray, List.set_cons_zero, List.set_cons_succ]
      refine tk_dst (i := 5) (dst := some 56) rfl rfl (by kernel_rfl) (by kernel_rfl) (by kernel_rfl) (fun _ _ _ h => h) (v := ?_) (Or.inl ⟨by rfl, ?_⟩) (by assumption) ?_
      rotate_left
      · intro w hSw; (try dsimp only at hSw); go_simp; first | done | (with_reducible rfl)
      simp only [Act.put, List.setIfInBounds_toArray, List.set_cons_zero, List.set_cons_succ]
      refine tk_dst (i := 6) (dst := some 57) rfl rfl (by kernel_rfl) (by kernel_rfl) (by kernel_rfl) (fun _ _ _ h => h) (v := ?_) (Or.inl ⟨by rfl, ?_⟩) (by assumption) ?_
      rotate_left
      · intro w hSw; (try dsimp only at hSw); go_simp; first | done | (with_reducible rfl)
      simp only [Act.put, List.setIfInBounds_toArray, List.set_cons_zero, List.set_cons_succ]
      refine tk_dst (i := 7) (dst := some 58) rfl rfl (by kernel_rfl) (by kernel_rfl) (by kernel_rfl) (fun _ _ _ h => h) (v := ?_) (Or.inl ⟨by rfl, ?_⟩) (by assumption) ?_
      rotate_left
      · intro w hSw; (try dsimp only at hSw); go_simp; first | done | (with_reducible rfl)
      simp only [Act.put, List.setIfInBounds_toArray, List.set_cons_zero, List.set_cons_succ]
      refine tk_dst (i := 8) (dst := some 59) rfl rfl (by kernel_rfl) (by kernel_rfl) (by kernel_rfl) (fun _ _ _ h => h) (v := ?_) (Or.inl ⟨by rfl, ?_⟩) (by assumption) ?_
      rotate_left
      · intro w hSw; (try dsimp only at hSw); go_simp; first | done | (with_reducible rfl)
      simp only [Act.put, List.setIfInBounds_toArray, List.set_cons_zero, List.set_cons_succ]
      refine tk_dst (i := 9) (dst := some 60) rfl rfl (by kernel_rfl) (by kernel_rfl) (by kernel_rfl) (fun _ _ _ h => h) (v := ?_) (Or.inl ⟨by rfl, ?_⟩) (by assumption) ?_
      rotate_left
      · intro w hSw; (try dsimp only at hSw); go_simp; first | done | (with_reducible rfl)
      simp only [Act.put, List.setIfInBounds_toArray, List.set_cons_zero, List.set_cons_succ]
      refine tk_dst (i := 10) (dst := some 61) rfl rfl (by kernel_rfl) (by kernel_rfl) (by kernel_rfl) (fun _ _ _ h => h) (v := ?_) (Or.inl ⟨by rfl, ?_⟩) (by assumption) ?_
      rotate_left
      · intro w hSw; (try dsimp only at hSw); go_simp; first | done | (with_reducible rfl)
      simp only [Act.put, List.setIfInBounds_toArray, List.set_cons_zero, List.set_cons_succ]
      refine tk_dst (i := 11) (dst := some 62) rfl rfl (by kernel_rfl) (by kernel_rfl) (by kernel_rfl) (fun _ _ _ h => h) (v := ?_) (Or.inl ⟨by rfl, ?_⟩) (by assumption) ?_
      rotate_left
      · intro w hSw; (try dsimp only at hSw); go_simp; first | done | (with_reducible rfl)
      simp only [Act.put, List.setIfInBounds_toArray, List.set_cons_zero, List.set_cons_succ]
      refine tk_dst (i := 12) (dst := some 63) rfl rfl (by kernel_rfl) (by kernel_rfl) (by kernel_rfl) (fun _ _ _ h => h) (v := ?_) (Or.inl ⟨by rfl, ?_⟩) (by assumption) ?_
      rotate_left
      · intro w hSw; (try dsimp only at hSw); go_simp; first | done | (with_reducible rfl)
      simp only [Act.put, List.setIfInBounds_toArray, List.set_cons_zero, List.set_cons_succ]
      refine wpAnyH_ready (rs := [13]) (by kernel_rfl) (by simp) ?_
      refine AllReadyH.cons rfl (fun K hK => ?_) AllReadyH.nil
      refine step_st_any (by rfl) w.heap.size 30 (hdL HN.zero Sl.nil) L (by rfl) (by rfl) hA8 (by rw [HLl.out]; rfl) (by rw [HLl.out]; exact hd_info) HLo.out ?_
      intro w9 hA9 hk9
      have hH9 := hH8.kept hk9 (by omega)
      have hc9 := (hH9.cell 17).trans HL17.out
      refine hK.out _ _ ⟨hc9, hH9.rangeAt⟩ (fun hHeld => ?_)
      clear hK K
      refine tk_dst (i := 14) (dst := some 5) rfl rfl (by kernel_rfl) (by kernel_rfl) (by kernel_rfl) (fun _ _ _ h => h) (v := ?_) (Or.inl ⟨by rfl, ?_⟩) (by assumption) ?_
      rotate_left
      · intro w hSw; (try dsimp only at hSw); go_simp; first | done | (with_reducible rfl)
      simp only [Act.put, List.setIfInBounds_toArray, List.set_cons_zero, List.set_cons_succ]
      refine tk_dst (i := 15) (dst := some 6) rfl rfl (by kernel_rfl) (by kernel_rfl) (by kernel_rfl) (fun _ _ _ h => h) (v := ?_) (Or.inl ⟨by rfl, ?_⟩) (by assumption) ?_
      rotate_left
      · intro w hSw; (try dsimp only at hSw); go_simp; first | done | (with_reducible rfl)
      simp only [Act.put, List.setIfInBounds_toArray, List.set_cons_zero, List.set_cons_succ]
      refine wpAnyH_done (by kernel_rfl) ?_ _
      go_wp2_with fail
      refine bodyPost_ret (results_cell_tmp2 4 5 6 30 (by rfl) _ 30 _ _ _ _ (by rfl) (by rfl) (by rfl) hA9 Try.underlying30 rfl (by rw [HLl.out]; exact hd_info)) rfl ?_
      refine ⟨⟨tA, N, tc⟩, ?_, ?_, ?_, (hk07.trans hk8).trans' hk9 (fun j hj => .inr (by omega))⟩
      · rw [HN1.out, HN2.out, HB1.out, HB2.out, HS3.out, HS4.out, HTOK.out.2, HTOK.out.1, HLv.out]
        rw [HS5.out, HNN.out]; simp; try omega
      · rw [HS3.out, HS4.out, HTOK.out.1]
        exact ((hin7.kept hk8 (fun b hb e => by omega)).kept hk9 (fun b hb e => by omega)).mono (fun b _ hb => by omega)
      · rw [HS3.out, HS4.out, HTOK.out.2, HS5.out]
        exact (hr8.kept hk9 (by omega) (fun b hb e => by omega)).mono (fun b _ hb => hb.1)
end
section
set_option linter.unusedVariables false
set_option linter.unusedSimpArgs false
open Go.RowKit
set_option maxRecDepth 100000 in
theorem nat_and64 : ∀ n : Fin 256, (n.val &&& 64) = n.val / 64 % 2 * 64 := by decide
set_option maxRecDepth 100000 in
theorem nat_and128 : ∀ n : Fin 256, (n.val &&& 128) = n.val / 128 * 128 := by decide
set_option maxRecDepth 100000 in
theorem nat_and3 : ∀ n : Fin 256, (n.val &&& 3) = n.val % 4 := by decide
theorem b_and64 (x : Int) (h0 : 0 ≤ x) (h1 : x < 256) : bits BinOp.and IntKind.u8 x 64 = x / 64 % 2 * 64 := by
  obtain ⟨n, rfl⟩ := Int.eq_ofNat_of_zero_le h0
  rw [u8_and _ _ h0 h1 (by decide) (by decide)]
  have := nat_and64 ⟨n, by omega⟩
  simp only at this
  rw [show (Int.toNat (n : Int)) = n from rfl, show Int.toNat (64 : Int) = 64 from rfl, this]
  omega
theorem b_and128 (x : Int) (h0 : 0 ≤ x) (h1 : x < 256) : bits BinOp.and IntKind.u8 x 128 = x / 128 * 128 := by
  obtain ⟨n, rfl⟩ := Int.eq_ofNat_of_zero_le h0
  rw [u8_and _ _ h0 h1 (by decide) (by decide)]
  have := nat_and128 ⟨n, by omega⟩
  simp only at this
  rw [show (Int.toNat (n : Int)) = n from rfl, show Int.toNat (128 : Int) = 128 from rfl, this]
  omega
theorem b_and3 (x : Int) (h0 : 0 ≤ x) (h1 : x < 256) : bits BinOp.and IntKind.u8 x 3 = x % 4 := by
  obtain ⟨n, rfl⟩ := Int.eq_ofNat_of_zero_le h0
  rw [u8_and _ _ h0 h1 (by decide) (by decide)]
  have := nat_and3 ⟨n, by omega⟩
  simp only at this
  rw [show (Int.toNat (n : Int)) = n from rfl, show Int.toNat (3 : Int) = 3 from rfl, this]
  omega
theorem four_two (s : St) (hb : Byt s.1) (h : s.2 = true → s.1 = []) : takeN (takeN s 2) 2 = takeN s 4 ∧ (takeR s 4 = [0, 0, 0, 1] ↔ twoR s * 65536 + twoR (takeN s 2) = 1) := by
  constructor
  · rcases takeN_takeN s 2 2 (by decide) (by decide) h with h | h | h
    · exact h
    · omega
    · omega
  · obtain ⟨bs, bad⟩ := s
    match bs with
    | [] => simp [takeR, twoR, takeN]
    | [a] => simp [takeR, twoR, takeN]
    | [a, b] =>
      have ha := hb a (by simp)
      have hb' := hb b (by simp)
      simp [takeR, twoR, takeN]; omega
    | [a, b, c] =>
      have ha := hb a (by simp)
      have hb' := hb b (by simp)
      simp [takeR, twoR, takeN]; omega
    | a :: b :: c :: d :: t =>
      have h1 := hb a (by simp)
      have h2 := hb b (by simp)
      have h3 := hb c (by simp)
      have h4 := hb d (by simp)
      have e1 : takeR (a :: b :: c :: d :: t, bad) 4 = [a, b, c, d] := by
        unfold takeR; rw [if_pos ⟨by decide, by simp only [List.length_cons]; omega⟩]; rfl
      have e2 : takeR (a :: b :: c :: d :: t, bad) 2 = [a, b] := by
        unfold takeR; rw [if_pos ⟨by decide, by simp only [List.length_cons]; omega⟩]; rfl
      have e3 : takeN (a :: b :: c :: d :: t, bad) 2 = (c :: d :: t, bad) := by
        unfold takeN; rw [if_pos ⟨by decide, by simp only [List.length_cons]; omega⟩]; rfl
      have e4 : takeR (c :: d :: t, bad) 2 = [c, d] := by
        unfold takeR; rw [if_pos ⟨by decide, by simp only [List.length_cons]; omega⟩]; rfl
      unfold twoR
      rw [e1, e2, e3, e4]
      simp
      omega
/-- What was read, and what it means. -/
def LinkS (bs : List Int) (m : HN) (tok : List Int) (n : Int) (ok : Bool) (s' : St) : Prop :=
  parseS bs = if ok = true ∧ s'.2 = false ∧ 12 ≤ n ∧ n ≤ s'.1.length then some (m, tok, (bs.length : Int) - s'.1.length, (bs.length : Int) - s'.1.length + n) else none
def HRead (bs : List Int) (w : World) (p : Nat) (T : TypeId) (P : Nat → Prop) (e : Ending) (w' : World) : Prop :=
  ∃ m d tok n ok s', e = .returned (.tuple #[hdV m d, .int .u64 n, .bool ok]) ∧ LinkS bs m tok n ok s' ∧ InD w' (fun b => w.heap.size ≤ b) d tok ∧ Rdr w' p T P s' ∧ Kept (· = p) w w' ∧ 0 ≤ n ∧ n ≤ 4611686018427387903 ∧ s'.1.length ≤ bs.length ∧ m.wf
theorem link_no (bs : List Int) (m : HN) (n : Int) (s' : St) (h : parseS bs = none) : LinkS bs m [] n false s' := by
  unfold LinkS; rw [h, if_neg (by simp)]
theorem wf_zero8 : HN.zero.wf := by constructor <;> first | decide | (intro x hx; simp [HN.zero, N8.zero, N8.l] at hx; omega)
theorem n8_byt (l : List Int) (h : Byt l) : Byt (N8.of l).l := by
  intro x hx
  simp only [N8.of, N8.l, List.mem_cons, List.not_mem_nil, or_false] at hx
  rcases hx with rfl | rfl | rfl | rfl | rfl | rfl | rfl | rfl <;> exact h.getD _
theorem takeR_byt (s : St) (n : Int) (h : Byt s.1) : Byt (takeR s n) := by
  unfold takeR; split
  · exact h.take _
  · exact Byt.nil
theorem takeN_byt (s : St) (n : Int) (h : Byt s.1) : Byt (takeN s n).1 := by
  unfold takeN; split
  · exact h.drop _
  · exact Byt.nil
theorem takeN_bad (s : St) (n : Int) (h : s.2 = true → s.1 = []) : (takeN s n).2 = true → (takeN s n).1 = [] := by
  unfold takeN; split
  · intro hb; simp [h hb]
  · intro _; rfl
theorem textN_le (s : St) : (textN s).1.length ≤ s.1.length := Nat.le_trans (takeN_le _ _) (varN_le s)
theorem tokN_le (s : St) (sp : Int) : (tokN s sp).1.length ≤ s.1.length := by
  unfold tokN; split
  · exact textN_le s
  · exact Nat.le_refl _
theorem varN_byt (s : St) (h : Byt s.1) : Byt (varN s).1 := by
  unfold varN; split
  · exact Byt.nil
  · exact takeN_byt _ _ h
theorem tokN_byt (s : St) (sp : Int) (h : Byt s.1) : Byt (tokN s sp).1 := by
  unfold tokN; split
  · exact takeN_byt _ _ (varN_byt _ h)
  · exact h
theorem link_long (bs : List Int) (hb : Byt bs) (hx : ¬ byteR (bs, false) / 64 % 2 = 0) (hy : ¬ byteR (bs, false) / 128 = 0) (sp : Int) (hsp : byteR (bs, false) / 16 % 4 = sp) (h1 : sp ≤ 1)
    (hv : twoR (takeN (bs, false) 1) * 65536 + twoR (takeN (takeN (bs, false) 1) 2) = 1) (s2 : St) (hs2 : takeN (takeN (takeN (bs, false) 1) 2) 2 = s2) :
    LinkS bs ⟨sp, N8.of (lgR s2), N8.of (lgR (lgN s2)), 1, false⟩ (tokR (lgN (lgN s2)) sp) (varR (tokN (lgN (lgN s2)) sp)) ((byteR s2 == 8) && ((byteR (lgN s2) == 8) && decide ((tokR (lgN (lgN s2)) sp).length ≤ 32))) (varN (tokN (lgN (lgN s2)) sp)) := by
  have f := four_two (takeN (bs, false) 1) (takeN_byt _ _ hb) (takeN_bad _ _ (by simp))
  unfold LinkS parseS
  simp only
  rw [if_neg hx, if_neg hy, hsp, ← f.1, hs2]
  have hd : decide (sp ≤ 1 ∧ takeR (takeN (bs, false) 1) 4 = [0, 0, 0, 1]) = true := by simp only [decide_eq_true_eq]; exact ⟨h1, f.2.2 hv⟩
  rw [hd]
  unfold htailS
  by_cases hc : byteR s2 = 8 ∧ byteR (lgN s2) = 8 ∧ (tokR (lgN (lgN s2)) sp).length ≤ 32
  · obtain ⟨c1, c2, c3⟩ := hc
    simp only [c1, c2, c3, true_and, beq_self_eq_true, Bool.true_and, decide_true]
  · rw [if_neg (fun h => hc ⟨h.2.1, h.2.2.1, h.2.2.2.1⟩), if_neg (fun h => hc (by simpa using h.1))]
theorem link_bad (bs : List Int) (hb : Byt bs) (hx : ¬ byteR (bs, false) / 64 % 2 = 0) (hy : ¬ byteR (bs, false) / 128 = 0)
    (hv : twoR (takeN (bs, false) 1) * 65536 + twoR (takeN (takeN (bs, false) 1) 2) ≠ 1 ∨ 1 < byteR (bs, false) / 16 % 4) : parseS bs = none := by
  have f := four_two (takeN (bs, false) 1) (takeN_byt _ _ hb) (takeN_bad _ _ (by simp))
  unfold parseS
  simp only
  rw [if_neg hx, if_neg hy]
  have hd : decide (byteR (bs, false) / 16 % 4 ≤ 1 ∧ takeR (takeN (bs, false) 1) 4 = [0, 0, 0, 1]) = false := by
    simp only [decide_eq_false_iff_not]
    rintro ⟨h1, h2⟩
    rcases hv with hv | hv
    · exact hv (f.2.1 h2)
    · omega
  rw [hd]
  unfold htailS
  rw [if_neg (by simp)]
theorem link_short (bs : List Int) (hx : ¬ byteR (bs, false) / 64 % 2 = 0) (hy : byteR (bs, false) / 128 = 0) (s2 : St) (hs2 : takeN (takeN (bs, false) 1) 8 = s2) :
    LinkS bs ⟨2, N8.of (takeR (takeN (bs, false) 1) 8), .zero, 1, false⟩ [] s2.1.length true s2 := by
  unfold LinkS parseS
  simp only
  rw [if_neg hx, if_pos hy, hs2]
  by_cases hc : s2.2 = false ∧ 12 ≤ s2.1.length
  · rw [if_pos hc, if_pos ⟨trivial, hc.1, by omega, by omega⟩]
    have e : bs.length = 9 + s2.1.length := by
      have h1 := hc.1
      rw [← hs2] at h1 ⊢
      have h2 := take_false _ _ h1
      unfold takeN at h1 h2 ⊢
      split at h2
      · next g =>
        simp only at g
        rw [if_pos g] at h1 ⊢
        split at h1
        · next g2 =>
          rw [if_pos g2]
          simp only [List.length_drop] at g2 ⊢
          omega
        · cases h1
      · cases h2
    congr 1
    refine Prod.ext rfl (Prod.ext rfl (Prod.ext ?_ ?_)) <;> simp only <;> omega
  · rw [if_neg hc, if_neg (fun h => hc ⟨h.2.1, by have := h.2.2.1; omega⟩)]
end
end Go.Proofs.Ytehdilgnlhhjdaa
