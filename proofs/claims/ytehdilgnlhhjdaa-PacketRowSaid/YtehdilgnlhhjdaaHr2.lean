/-
  A long head, behind its first byte (head.readLong).
-/
import Derived.Test.YtehdilgnlhhjdaaMq10
namespace Go.Proofs.Ytehdilgnlhhjdaa
set_option linter.unusedVariables false
set_option linter.unusedSimpArgs false
open Go.RowKit
def RLNo (w : World) (p : Nat) (T : TypeId) (P : Nat → Prop) (s2 : St) (e : Ending) (w' : World) : Prop :=
  e = .returned (.tuple #[hdV HN.zero Sl.nil, .int .u64 0, .bool false]) ∧ Rdr w' p T P s2 ∧ Kept (· = p) w w'
def RLPost (w : World) (p : Nat) (T : TypeId) (P : Nat → Prop) (s2 : St) (sp : Int) (e : Ending) (w' : World) : Prop :=
  ∃ d, e = .returned (.tuple #[hdV ⟨sp, N8.of (lgR s2), N8.of (lgR (lgN s2)), 1, false⟩ d, .int .u64 (varR (tokN (lgN (lgN s2)) sp)), .bool ((byteR s2 == 8) && ((byteR (lgN s2) == 8) && decide ((tokR (lgN (lgN s2)) sp).length ≤ 32)))]) ∧
    InD w' (fun b => w.heap.size ≤ b) d (tokR (lgN (lgN s2)) sp) ∧ Rdr w' p T P (varN (tokN (lgN (lgN s2)) sp)) ∧ Kept (· = p) w w'
theorem lgN_le (s : St) : (lgN s).1.length ≤ s.1.length := Nat.le_trans (takeN_le _ _) (takeN_le _ _)
theorem twoR_bd (s : St) (hb : Byt s.1) : 0 ≤ twoR s ∧ twoR s < 65536 := by
  unfold twoR takeR
  split
  · have a := (hb.take (2 : Int).toNat).getD 0
    have b := (hb.take (2 : Int).toNat).getD 1
    omega
  · simp
theorem or_u32 (x y : Int) (hx0 : 0 ≤ x) (hx1 : x < 65536) (hy0 : 0 ≤ y) (hy1 : y < 65536) : bits BinOp.or IntKind.u32 (x * 65536) y = x * 65536 + y := by
  rw [u32_or _ _ (by omega) (by omega) hy0 (by omega), nat_join 16 _ _ (by omega) (by omega)]; omega
set_option maxRecDepth 100000 in
set_option maxHeartbeats 1000000 in
theorem rlong_no (p : Nat) (T : TypeId) (P : Nat → Prop) (s : St) (sp : Int) (w : World) (hr : Rdr w p T P s) (hP : ∀ b, P b → b ≠ p) (hl : s.1.length ≤ 1000000) (hsp : 0 ≤ sp ∧ sp ≤ 3) (hv : twoR s * 65536 + twoR (takeN s 2) ≠ 1 ∨ 1 < sp) :
    Calls Try.prog 92 #[.pointer (some ⟨p, 0, none⟩), .int .i64 sp] w (RLNo w p T P (takeN (takeN s 2) 2)) := by
  have hpl : p < w.heap.size := by obtain ⟨_, _, _, h, _⟩ := hr; exact h.lt
  have hbx := twoR_bd s hr.byt
  have hr' := hr.mono (P' := fun b => P b ∧ b < w.heap.size) (fun b hb hP => ⟨hP, hb⟩)
  have hP' : ∀ b, (P b ∧ b < w.heap.size) → b ≠ p := fun b hb => hP b hb.1
  have hrA : Rdr (w.alloc (.cells (hdL HN.zero Sl.nil).toArray 30)) p T (fun b => P b ∧ b < w.heap.size) s :=
    hr'.kept ((Kept.refl (fun _ => False) w).alloc _) (fun h => h) (fun _ _ h => h)
  have hA0 : At (w.alloc (.cells (hdL HN.zero Sl.nil).toArray 30)) w.heap.size 30 (hdL HN.zero Sl.nil) := At.new w _ _
  have hk0 : Kept (· = p) w (w.alloc (.cells (hdL HN.zero Sl.nil).toArray 30)) := (Kept.refl _ _).alloc _
  have hby : 0 ≤ twoR (takeN s 2) ∧ twoR (takeN s 2) < 65536 := by
    refine twoR_bd _ ?_
    unfold takeN
    split
    · exact hr.byt.drop _
    · exact Byt.nil
  obtain ⟨x, hx⟩ : ∃ x, twoR s = x := ⟨_, rfl⟩
  obtain ⟨y, hy⟩ : ∃ y, twoR (takeN s 2) = y := ⟨_, rfl⟩
  rw [hx] at hbx hv
  rw [hy] at hby hv
  have HX := Lib.hid hx
  have HY := Lib.hid hy
  clear hx hy
  obtain ⟨hx0, hx1⟩ := hbx
  obtain ⟨hy0, hy1⟩ := hby
  have hO := or_u32 x y hx0 hx1 hy0 hy1
  obtain ⟨hs0, hs3⟩ := hsp
  have hcase : ¬ (x * 65536 + y = 1) ∨ ((x * 65536 + y = 1) ∧ (sp = 2 ∨ sp = 3)) := by omega
  clear hv
  rcases hcase with e1 | ⟨e1, rfl | rfl⟩
  all_goals
    go_enter Try.func92, Try.ntmps92
    go_wp2_with fail
    refine (two_any p T _ s _ hrA hP').mono ?_
    rintro e w1 ⟨rfl, hr1, hk1⟩
    rw [HX.out]
    have hA1 := hA0.kept hk1 (by omega)
    have hk01 := hk0.trans hk1
    go_wp2_with fail
    refine (two_any p T _ (takeN s 2) w1 hr1 hP').mono ?_
    rintro e w2 ⟨rfl, hr2, hk2⟩
    rw [HY.out]
    have hA2 := hA1.kept hk2 (by omega)
    have hk02 := hk01.trans hk2
    clear hk1 hk2 hk01 hk0 hrA hA0 hr1 hA1
    go_wp2_with (first | ((with_reducible refine at_sth ?_); refine st_hd _ _ (hdL HN.zero Sl.nil) (by rfl) (by rfl) hA2 (by rfl) (by rfl) (by rfl) ?_; intro w3 hA3 hk3) | fail)
    refine bodyPost_ret (results_cell_tmp2 4 5 6 30 (by rfl) _ 30 _ _ _ _ (by rfl) (by rfl) (by rfl) hA3 Try.underlying30 rfl hd_info) rfl ?_
    exact ⟨rfl, (hr2.kept hk3 (by omega) (fun b hb hs => by omega)).mono (fun b _ hb => hb.1), hk02.trans' hk3 (fun j hj => .inr (by have := hk02.size; omega))⟩
set_option maxRecDepth 100000 in
set_option maxHeartbeats 2000000 in
theorem rlong_1 (p : Nat) (T : TypeId) (P : Nat → Prop) (s : St) (w : World) (hr : Rdr w p T P s) (hP : ∀ b, P b → b ≠ p) (hl : s.1.length ≤ 1000000) (hv0 : twoR s = 0) (hv1 : twoR (takeN s 2) = 1) :
    Calls Try.prog 92 #[.pointer (some ⟨p, 0, none⟩), .int .i64 1] w (RLPost w p T P (takeN (takeN s 2) 2) 1) := by
  have hpl : p < w.heap.size := by obtain ⟨_, _, _, h, _⟩ := hr; exact h.lt
  have hr' := hr.mono (P' := fun b => P b ∧ b < w.heap.size) (fun b hb hP => ⟨hP, hb⟩)
  have hP' : ∀ b, (P b ∧ b < w.heap.size) → b ≠ p := fun b hb => hP b hb.1
  have hrA : Rdr (w.alloc (.cells (hdL HN.zero Sl.nil).toArray 30)) p T (fun b => P b ∧ b < w.heap.size) s :=
    hr'.kept ((Kept.refl (fun _ => False) w).alloc _) (fun h => h) (fun _ _ h => h)
  have hA0 : At (w.alloc (.cells (hdL HN.zero Sl.nil).toArray 30)) w.heap.size 30 (hdL HN.zero Sl.nil) := At.new w _ _
  have hk0 : Kept (· = p) w (w.alloc (.cells (hdL HN.zero Sl.nil).toArray 30)) := (Kept.refl _ _).alloc _
  have hl1 := takeN_le s 2
  have hl2 := takeN_le (takeN s 2) 2
  have hO : bits BinOp.or IntKind.u32 0 1 = 1 := by decide
  have HV0 := Lib.hid hv0
  have HV1 := Lib.hid hv1
  clear hv0 hv1 hr hr'
  obtain ⟨s2, hs2⟩ : ∃ x, takeN (takeN s 2) 2 = x := ⟨_, rfl⟩
  have HS2 := Lib.hid hs2
  rw [hs2] at hl2 ⊢
  clear hs2
  have hl3 := lgN_le s2
  have hl4 := lgN_le (lgN s2)
  obtain ⟨B1, hB1⟩ : ∃ b, (byteR s2 == 8) = b := ⟨_, rfl⟩
  obtain ⟨B2, hB2⟩ : ∃ b, (byteR (lgN s2) == 8) = b := ⟨_, rfl⟩
  obtain ⟨n1, hn1⟩ : ∃ b, N8.of (lgR s2) = b := ⟨_, rfl⟩
  obtain ⟨n2, hn2⟩ : ∃ b, N8.of (lgR (lgN s2)) = b := ⟨_, rfl⟩
  have HB1 := Lib.hid hB1
  have HB2 := Lib.hid hB2
  have HN1 := Lib.hid hn1
  have HN2 := Lib.hid hn2
  clear hB1 hB2 hn1 hn2
  obtain ⟨s3, hs3⟩ : ∃ x, lgN s2 = x := ⟨_, rfl⟩
  have HS3 := Lib.hid hs3
  rw [hs3] at hl3 hl4
  clear hs3
  obtain ⟨s4, hs4⟩ : ∃ x, lgN s3 = x := ⟨_, rfl⟩
  have HS4 := Lib.hid hs4
  rw [hs4] at hl4
  clear hs4
  obtain ⟨t0, t1, t2, t3, t4, t5, t6, t7⟩ := n1
  obtain ⟨f0, f1, f2, f3, f4, f5, f6, f7⟩ := n2
  go_enter Try.func92, Try.ntmps92
  go_wp2_with fail
  refine (two_any p T _ s _ hrA hP').mono ?_
  rintro e w1 ⟨rfl, hr1, hk1⟩
  rw [HV0.out]
  have hA1 := hA0.kept hk1 (by omega)
  have hk01 := hk0.trans hk1
  go_wp2_with fail
  refine (two_any p T _ (takeN s 2) w1 hr1 hP').mono ?_
  rintro e w2 ⟨rfl, hr2, hk2⟩
  rw [HV1.out]
  rw [HS2.out] at hr2
  have hA2 := hA1.kept hk2 (by omega)
  have hk02 := hk01.trans hk2
  clear hk1 hk2 hk01 hk0 hrA hA0 hr1 hA1
  have hz2 := hA2.lt
  go_wp2_with fail
  refine (lname_any p T _ s2 w2 hr2 hP' (by omega)).mono ?_
  rintro e w3 ⟨rfl, hr3, hk3⟩
  rw [HB1.out, HN1.out]
  rw [HS3.out] at hr3
  have hA3 := hA2.kept hk3 (by omega)
  have hk03 := hk02.trans hk3
  have hz3 := hA3.lt
  clear hk3 hk02 hr2 hA2
  have hr3a := hr3.kept ((Kept.refl (fun _ => False) w3).alloc (.cells ([.int .u8 t0, .int .u8 t1, .int .u8 t2, .int .u8 t3, .int .u8 t4, .int .u8 t5, .int .u8 t6, .int .u8 t7] : List Value).toArray 27)) (fun h => h) (fun _ _ h => h)
  have hA3a := hA3.alloc (.cells ([.int .u8 t0, .int .u8 t1, .int .u8 t2, .int .u8 t3, .int .u8 t4, .int .u8 t5, .int .u8 t6, .int .u8 t7] : List Value).toArray 27)
  have hT3a := At.new w3 27 [.int .u8 t0, .int .u8 t1, .int .u8 t2, .int .u8 t3, .int .u8 t4, .int .u8 t5, .int .u8 t6, .int .u8 t7]
  have hk3a := hk03.alloc (.cells ([.int .u8 t0, .int .u8 t1, .int .u8 t2, .int .u8 t3, .int .u8 t4, .int .u8 t5, .int .u8 t6, .int .u8 t7] : List Value).toArray 27)
  go_wp2_with (first | (refine wpList_store_top (ty := 27) w3 27 (List.replicate 8 (Value.int .u8 0)) [.int .u8 t0, .int .u8 t1, .int .u8 t2, .int .u8 t3, .int .u8 t4, .int .u8 t5, .int .u8 t6, .int .u8 t7] (by rfl) _ (by rfl) (by rfl) (by rfl) (by rfl) cid_info (by rfl) ?_) | fail)
  obtain ⟨w3a, hw3a⟩ : ∃ x, w3.alloc (.cells ([.int .u8 t0, .int .u8 t1, .int .u8 t2, .int .u8 t3, .int .u8 t4, .int .u8 t5, .int .u8 t6, .int .u8 t7] : List Value).toArray 27) = x := ⟨_, rfl⟩
  rw [hw3a] at hr3a hA3a hT3a hk3a ⊢
  clear hw3a hr3 hA3 hk03
  obtain ⟨g8, hg8⟩ : ∃ g, w3.heap.size = g := ⟨_, rfl⟩
  rw [hg8] at hT3a hz3 ⊢
  have hz3a := hT3a.lt
  clear hg8
  refine (lname_any p T _ s3 w3a hr3a hP' (by omega)).mono ?_
  rintro e w4 ⟨rfl, hr4, hk4⟩
  rw [← HS3.out, HB2.out, HN2.out]
  rw [HS4.out] at hr4
  have hA4 := hA3a.kept hk4 (by omega)
  have hT4 := hT3a.kept hk4 (by omega)
  have hk04 := hk3a.trans hk4
  have hz4 := hT4.lt
  clear hk4 hk3a hr3a hA3a hT3a
  have hr4a := hr4.kept ((Kept.refl (fun _ => False) w4).alloc (.cells ([.int .u8 f0, .int .u8 f1, .int .u8 f2, .int .u8 f3, .int .u8 f4, .int .u8 f5, .int .u8 f6, .int .u8 f7] : List Value).toArray 27)) (fun h => h) (fun _ _ h => h)
  have hA4a := hA4.alloc (.cells ([.int .u8 f0, .int .u8 f1, .int .u8 f2, .int .u8 f3, .int .u8 f4, .int .u8 f5, .int .u8 f6, .int .u8 f7] : List Value).toArray 27)
  have hT4a := hT4.alloc (.cells ([.int .u8 f0, .int .u8 f1, .int .u8 f2, .int .u8 f3, .int .u8 f4, .int .u8 f5, .int .u8 f6, .int .u8 f7] : List Value).toArray 27)
  have hF4a := At.new w4 27 [.int .u8 f0, .int .u8 f1, .int .u8 f2, .int .u8 f3, .int .u8 f4, .int .u8 f5, .int .u8 f6, .int .u8 f7]
  have hk4a := hk04.alloc (.cells ([.int .u8 f0, .int .u8 f1, .int .u8 f2, .int .u8 f3, .int .u8 f4, .int .u8 f5, .int .u8 f6, .int .u8 f7] : List Value).toArray 27)
  have hH5 : At ((w4.alloc (.cells ([.int .u8 f0, .int .u8 f1, .int .u8 f2, .int .u8 f3, .int .u8 f4, .int .u8 f5, .int .u8 f6, .int .u8 f7] : List Value).toArray 27)).alloc (.cells (hdL ⟨1, ⟨t0, t1, t2, t3, t4, t5, t6, t7⟩, ⟨f0, f1, f2, f3, f4, f5, f6, f7⟩, 1, false⟩ Sl.nil).toArray 30)) (w4.heap.size + 1) 30 (hdL ⟨1, ⟨t0, t1, t2, t3, t4, t5, t6, t7⟩, ⟨f0, f1, f2, f3, f4, f5, f6, f7⟩, 1, false⟩ Sl.nil) := At.new_ _ _ _ (by simp)
  have hr5 := hr4a.kept ((Kept.refl (fun _ => False) _).alloc (.cells (hdL ⟨1, ⟨t0, t1, t2, t3, t4, t5, t6, t7⟩, ⟨f0, f1, f2, f3, f4, f5, f6, f7⟩, 1, false⟩ Sl.nil).toArray 30)) (fun h => h) (fun _ _ h => h)
  have hA5 := hA4a.alloc (.cells (hdL ⟨1, ⟨t0, t1, t2, t3, t4, t5, t6, t7⟩, ⟨f0, f1, f2, f3, f4, f5, f6, f7⟩, 1, false⟩ Sl.nil).toArray 30)
  have hk5 := hk4a.alloc (.cells (hdL ⟨1, ⟨t0, t1, t2, t3, t4, t5, t6, t7⟩, ⟨f0, f1, f2, f3, f4, f5, f6, f7⟩, 1, false⟩ Sl.nil).toArray 30)
  obtain ⟨w5, hw5⟩ : ∃ x, (w4.alloc (.cells ([.int .u8 f0, .int .u8 f1, .int .u8 f2, .int .u8 f3, .int .u8 f4, .int .u8 f5, .int .u8 f6, .int .u8 f7] : List Value).toArray 27)).alloc (.cells (hdL ⟨1, ⟨t0, t1, t2, t3, t4, t5, t6, t7⟩, ⟨f0, f1, f2, f3, f4, f5, f6, f7⟩, 1, false⟩ Sl.nil).toArray 30) = x := ⟨_, rfl⟩
  rw [hw5] at hH5 hr5 hA5 hk5
  have hz5 := hH5.lt
  clear hr4 hA4 hT4 hk04 hr4a hA4a hk4a
  go_wp2_with (first | (refine wpList_store_top (ty := 27) w4 27 (List.replicate 8 (Value.int .u8 0)) [.int .u8 f0, .int .u8 f1, .int .u8 f2, .int .u8 f3, .int .u8 f4, .int .u8 f5, .int .u8 f6, .int .u8 f7] (by rfl) _ (by rfl) (by rfl) (by rfl) (by rfl) cid_info (by rfl) ?_) | (refine wpList_load_at (x := .tmp 8) (ty := 27) g8 _ [.int .u8 t0, .int .u8 t1, .int .u8 t2, .int .u8 t3, .int .u8 t4, .int .u8 t5, .int .u8 t6, .int .u8 t7] _ (by rfl) hT4a Try.underlying27 rfl cid_info ?_) | (refine wpList_load_at (x := .tmp 10) (ty := 27) w4.heap.size _ [.int .u8 f0, .int .u8 f1, .int .u8 f2, .int .u8 f3, .int .u8 f4, .int .u8 f5, .int .u8 f6, .int .u8 f7] _ (by rfl) hF4a Try.underlying27 rfl cid_info ?_) | ((with_reducible refine at_sth ?_); refine wpList_store_top (w4.alloc (.cells ([.int .u8 f0, .int .u8 f1, .int .u8 f2, .int .u8 f3, .int .u8 f4, .int .u8 f5, .int .u8 f6, .int .u8 f7] : List Value).toArray 27)) 30 (hdL HN.zero Sl.nil) (hdL ⟨1, ⟨t0, t1, t2, t3, t4, t5, t6, t7⟩, ⟨f0, f1, f2, f3, f4, f5, f6, f7⟩, 1, false⟩ Sl.nil) (by rfl) _ (by rfl) (by simp) (by rfl) (by rfl) hd_info (by rfl) ?_; rw [hw5]) | fail)
  clear hT4a hF4a hw5

  have htok : tokR s4 1 = [] ∧ tokN s4 1 = s4 := by unfold tokR tokN; rw [if_neg (by decide), if_neg (by decide)]; exact ⟨rfl, rfl⟩
  have HTOK := Lib.hid htok
  clear htok
  have hH7 := hH5
  have hr7 := hr5
  have hA7 := hA5
  have hk07 := hk5
  have hin7 : InD w5 (fun b => w.heap.size < b ∧ b ≠ p) Sl.nil [] := InD.nil_ _ _
  clear hH5 hr5 hA5 hk5
  obtain ⟨w7, hw7⟩ : ∃ x, w5 = x := ⟨_, rfl⟩
  rw [hw7] at hH7 hr7 hA7 hk07 hin7 ⊢
  clear hw7
  have hc7 : w7.cell? ⟨w4.heap.size + 1, 17, none⟩ = some (.slice none 0 0) := hH7.cell 17
  obtain ⟨g12, hg12⟩ : ∃ g, w4.heap.size + 1 = g := ⟨_, rfl⟩
  rw [hg12] at hH7 hc7 hz5 ⊢
  obtain ⟨L, hL⟩ : ∃ L, hdL ⟨1, ⟨t0, t1, t2, t3, t4, t5, t6, t7⟩, ⟨f0, f1, f2, f3, f4, f5, f6, f7⟩, 1, false⟩ Sl.nil = L := ⟨_, rfl⟩
  have hLl : L.length = 20 := by rw [← hL]; rfl
  have hL17 : L[17]? = some (.slice none 0 0) := by rw [← hL]; rfl
  have HL17 := Lib.hid hL17
  clear hL17
  have hLo : L.all (·.oneCell') = true := by rw [← hL]; rfl
  have hLv : hdV ⟨1, ⟨t0, t1, t2, t3, t4, t5, t6, t7⟩, ⟨f0, f1, f2, f3, f4, f5, f6, f7⟩, 1, false⟩ Sl.nil = .agg L.toArray := by rw [← hL]; rfl
  rw [hL] at hH7
  have hg12p : p < g12 ∧ w.heap.size < g12 := by omega
  have HLl := Lib.hid hLl
  have HLo := Lib.hid hLo
  have HLv := Lib.hid hLv
  clear hL hLl hLo hLv hg12 hl1 hl2 hl3 hl4
  have hH7 := hH7.drew
  have hA7 := hA7.drew
  have hr7 := hr7.drewN 1
  have hk07 := hk07.drewN 1
  have hc7' : w7.drew.cell? ⟨g12, 17, none⟩ = some (.slice none 0 0) := hc7
  have hin7 := hin7.kept ((Kept.refl (fun _ => False) w7).drewN 1) (fun _ _ h => h)
  have hz7 := hH7.lt
  clear hc7
  cases B1
  case false =>
    refine wp_region_held_drew (S := (fun w' => w'.cell? ⟨g12, 17, none⟩ = some (.slice none 0 0) ∧ w'.rangeAt g12 0 L)) (by kernel_rfl) (⟨hc7', hH7.rangeAt⟩) (fun hHeld => ?_)
    refine tk_dst (i := 0) (dst := some 51) rfl rfl (by kernel_rfl) (by kernel_rfl) (by kernel_rfl) (fun _ _ _ h => h) (v := ?_) ?_ (by assumption) ?_
    rotate_left
    · refine yl_any 30 ?ylx0 ?ylo0 ?ylb0 ?ylq0 ?ylp0 L _ ?ylS0 Try.underlying30 rfl ?yli0 ?ylw0
      case ylo0 => rfl
      case ylp0 => rfl
      case ylS0 => intro w hSw; exact hSw.2
      case yli0 => rw [HLl.out]; exact hd_info
      case ylw0 => rfl
    simp only [Act.put, List.setIfInBounds_toArray, List.set_cons_zero, List.set_cons_succ]
    refine tk_dst (i := 1) (dst := some 52) rfl rfl (by kernel_rfl) (by kernel_rfl) (by kernel_rfl) (fun _ _ _ h => h) (v := ?_) (Or.inl ⟨by rfl, ?_⟩) (by assumption) ?_
    rotate_left
    · intro w hSw; (try dsimp only at hSw); go_simp; first | done | (with_reducible rfl)
    simp only [Act.put, List.setIfInBounds_toArray, List.set_cons_zero, List.set_cons_succ]
    refine tk_dst (i := 3) (dst := some 54) rfl rfl (by kernel_rfl) (by kernel_rfl) (by kernel_rfl) (fun _ _ _ h => h) (v := ?_) (Or.inl ⟨by rfl, ?_⟩) (by assumption) ?_
    rotate_left
    · intro w hSw; (try dsimp only at hSw); go_simp; first | done | (with_reducible rfl)
    simp only [Act.put, List.setIfInBounds_toArray, List.set_cons_zero, List.set_cons_succ]
    refine wpAnyH_ready (rs := [2]) (by kernel_rfl) (by simp) ?_
    refine AllReadyH.cons rfl (fun K hK => ?_) AllReadyH.nil
    go_simp
    go_wp2_with ((go_at_call 101; refine (var_any p T _ s4 _ hr7 hP').mono ?_; rintro e w8 ⟨rfl, hr8, hk8⟩; have hH8 := hH7.kept hk8 (by omega); have hA8 := hA7.kept hk8 (by omega); have hc8 := (hH8.cell 17).trans HL17.out))
    refine hK.out _ _ (⟨hc8, hH8.rangeAt⟩) (fun hHeld => ?_)
    clear hK K
    refine tk_dst (i := 4) (dst := some 55) rfl rfl (by kernel_rfl) (by kernel_rfl) (by kernel_rfl) (fun _ _ _ h => h) (v := ?_) (Or.inl ⟨by rfl, ?_⟩) (by assumption) ?_
    rotate_left
    · intro w hSw; (try dsimp only at hSw); go_simp; first | done | (with_reducible rfl)
    simp only [Act.put, List.setIfInBounds_toArray, List.set_cons_zero, List.set_cons_succ]
    refine tk_dst (i := 5) (dst := some 56) rfl rfl (by kernel_rfl) (by kernel_rfl) (by kernel_rfl) (fun _ _ _ h => h) (v := undef) (Or.inr ⟨by rfl, rfl⟩) (by assumption) ?_
    simp only [Act.put, List.setIfInBounds_toArray, List.set_cons_zero, List.set_cons_succ]
    refine tk_dst (i := 6) (dst := some 57) rfl rfl (by kernel_rfl) (by kernel_rfl) (by kernel_rfl) (fun _ _ _ h => h) (v := ?_) (Or.inl ⟨by rfl, ?_⟩) (by assumption) ?_
    rotate_left
    · intro w hSw; (try dsimp only at hSw); go_simp; first | done | (with_reducible rfl)
    simp only [Act.put, List.setIfInBounds_toArray, List.set_cons_zero, List.set_cons_succ]
    refine tk_dst (i := 7) (dst := some 58) rfl rfl (by kernel_rfl) (by kernel_rfl) (by kernel_rfl) (fun _ _ _ h => h) (v := ?_) (Or.inl ⟨by rfl, ?_⟩) (by assumption) ?_
    rotate_left
    · intro w hSw; (try dsimp only at hSw); go_simp; first | done | (with_reducible rfl)
    simp only [Act.put, List.setIfInBounds_toArray, List.set_cons_zero, List.set_cons_succ]
    refine tk_dst (i := 8) (dst := some 59) rfl rfl (by kernel_rfl) (by kernel_rfl) (by kernel_rfl) (fun _ _ _ h => h) (v := undef) (Or.inr ⟨by rfl, rfl⟩) (by assumption) ?_
    simp only [Act.put, List.setIfInBounds_toArray, List.set_cons_zero, List.set_cons_succ]
    refine tk_dst (i := 9) (dst := some 60) rfl rfl (by kernel_rfl) (by kernel_rfl) (by kernel_rfl) (fun _ _ _ h => h) (v := undef) (Or.inr ⟨by rfl, rfl⟩) (by assumption) ?_
    simp only [Act.put, List.setIfInBounds_toArray, List.set_cons_zero, List.set_cons_succ]
    refine tk_dst (i := 10) (dst := some 61) rfl rfl (by kernel_rfl) (by kernel_rfl) (by kernel_rfl) (fun _ _ _ h => h) (v := undef) (Or.inr ⟨by rfl, rfl⟩) (by assumption) ?_
    simp only [Act.put, List.setIfInBounds_toArray, List.set_cons_zero, List.set_cons_succ]
    refine tk_dst (i := 11) (dst := some 62) rfl rfl (by kernel_rfl) (by kernel_rfl) (by kernel_rfl) (fun _ _ _ h => h) (v := undef) (Or.inr ⟨by rfl, rfl⟩) (by assumption) ?_
    simp only [Act.put, List.setIfInBounds_toArray, List.set_cons_zero, List.set_cons_succ]
    refine tk_dst (i := 12) (dst := some 63) rfl rfl (by kernel_rfl) (by kernel_rfl) (by kernel_rfl) (fun _ _ _ h => h) (v := ?_) (Or.inl ⟨by rfl, ?_⟩) (by assumption) ?_
    rotate_left
    · intro w hSw; (try dsimp only at hSw); go_simp; first | done | (with_reducible rfl)
    simp only [Act.put, List.setIfInBounds_toArray, List.set_cons_zero, List.set_cons_succ]
    refine wpAnyH_ready (rs := [13]) (by kernel_rfl) (by simp) ?_
    refine AllReadyH.cons rfl (fun K hK => ?_) AllReadyH.nil
    refine step_st_any (by rfl) w.heap.size 30 (hdL HN.zero Sl.nil) L (by rfl) (by rfl) hA8 (by rw [HLl.out]; rfl) (by rw [HLl.out]; exact hd_info) HLo.out ?_
    intro w9 hA9 hk9
    have hH9 := hH8.kept hk9 (by omega)
    have hc9 := (hH9.cell 17).trans HL17.out
    refine hK.out _ _ ⟨hc9, hH9.rangeAt⟩ (fun hHeld => ?_)
    clear hK K
    refine tk_dst (i := 14) (dst := some 5) rfl rfl (by kernel_rfl) (by kernel_rfl) (by kernel_rfl) (fun _ _ _ h => h) (v := ?_) (Or.inl ⟨by rfl, ?_⟩) (by assumption) ?_
    rotate_left
    · intro w hSw; (try dsimp only at hSw); go_simp; first | done | (with_reducible rfl)
    simp only [Act.put, List.setIfInBounds_toArray, List.set_cons_zero, List.set_cons_succ]
    refine tk_dst (i := 15) (dst := some 6) rfl rfl (by kernel_rfl) (by kernel_rfl) (by kernel_rfl) (fun _ _ _ h => h) (v := ?_) (Or.inl ⟨by rfl, ?_⟩) (by assumption) ?_
    rotate_left
    · intro w hSw; (try dsimp only at hSw); go_simp; first | done | (with_reducible rfl)
    simp only [Act.put, List.setIfInBounds_toArray, List.set_cons_zero, List.set_cons_succ]
    refine wpAnyH_done (by kernel_rfl) ?_ _
    go_wp2_with fail
    refine bodyPost_ret (results_cell_tmp2 4 5 6 30 (by rfl) _ 30 _ _ _ _ (by rfl) (by rfl) (by rfl) hA9 Try.underlying30 rfl (by rw [HLl.out]; exact hd_info)) rfl ?_
    refine ⟨Sl.nil, ?_, ?_, ?_, (hk07.trans hk8).trans' hk9 (fun j hj => .inr (by omega))⟩
    · rw [HN1.out, HN2.out, HB1.out, HB2.out, HS3.out, HS4.out, HTOK.out.2, HTOK.out.1, HLv.out]
      first | rfl | simp
    · rw [HS3.out, HS4.out, HTOK.out.1]
      exact ((hin7.kept hk8 (fun b hb e => by omega)).kept hk9 (fun b hb e => by omega)).mono (fun b _ hb => by omega)
    · rw [HS3.out, HS4.out, HTOK.out.2]
      exact (hr8.kept hk9 (by omega) (fun b hb e => by omega)).mono (fun b _ hb => hb.1)
  case true =>
    cases B2
    case false =>
      refine wp_region_held_drew (S := (fun w' => w'.cell? ⟨g12, 17, none⟩ = some (.slice none 0 0) ∧ w'.rangeAt g12 0 L)) (by kernel_rfl) (⟨hc7', hH7.rangeAt⟩) (fun hHeld => ?_)
      refine tk_dst (i := 0) (dst := some 51) rfl rfl (by kernel_rfl) (by kernel_rfl) (by kernel_rfl) (fun _ _ _ h => h) (v := ?_) ?_ (by assumption) ?_
      rotate_left
      · refine yl_any 30 ?ylx0 ?ylo0 ?ylb0 ?ylq0 ?ylp0 L _ ?ylS0 Try.underlying30 rfl ?yli0 ?ylw0
        case ylo0 => rfl
        case ylp0 => rfl
        case ylS0 => intro w hSw; exact hSw.2
        case yli0 => rw [HLl.out]; exact hd_info
        case ylw0 => rfl
      simp only [Act.put, List.setIfInBounds_toArray, List.set_cons_zero, List.set_cons_succ]
      refine tk_dst (i := 1) (dst := some 52) rfl rfl (by kernel_rfl) (by kernel_rfl) (by kernel_rfl) (fun _ _ _ h => h) (v := ?_) (Or.inl ⟨by rfl, ?_⟩) (by assumption) ?_
      rotate_left
      · intro w hSw; (try dsimp only at hSw); go_simp; first | done | (with_reducible rfl)
      simp only [Act.put, List.setIfInBounds_toArray, List.set_cons_zero, List.set_cons_succ]
      refine tk_dst (i := 3) (dst := some 54) rfl rfl (by kernel_rfl) (by kernel_rfl) (by kernel_rfl) (fun _ _ _ h => h) (v := ?_) (Or.inl ⟨by rfl, ?_⟩) (by assumption) ?_
      rotate_left
      · intro w hSw; (try dsimp only at hSw); go_simp; first | done | (with_reducible rfl)
      simp only [Act.put, List.setIfInBounds_toArray, List.set_cons_zero, List.set_cons_succ]
      refine wpAnyH_ready (rs := [2]) (by kernel_rfl) (by simp) ?_
      refine AllReadyH.cons rfl (fun K hK => ?_) AllReadyH.nil
      go_simp
      go_wp2_with ((go_at_call 101; refine (var_any p T _ s4 _ hr7 hP').mono ?_; rintro e w8 ⟨rfl, hr8, hk8⟩; have hH8 := hH7.kept hk8 (by omega); have hA8 := hA7.kept hk8 (by omega); have hc8 := (hH8.cell 17).trans HL17.out))
      refine hK.out _ _ (⟨hc8, hH8.rangeAt⟩) (fun hHeld => ?_)
      clear hK K
      refine tk_dst (i := 4) (dst := some 55) rfl rfl (by kernel_rfl) (by kernel_rfl) (by kernel_rfl) (fun _ _ _ h => h) (v := ?_) (Or.inl ⟨by rfl, ?_⟩) (by assumption) ?_
      rotate_left
      · intro w hSw; (try dsimp only at hSw); go_simp; first | done | (with_reducible rfl)
      simp only [Act.put, List.setIfInBounds_toArray, List.set_cons_zero, List.set_cons_succ]
      refine tk_dst (i := 5) (dst := some 56) rfl rfl (by kernel_rfl) (by kernel_rfl) (by kernel_rfl) (fun _ _ _ h => h) (v := ?_) (Or.inl ⟨by rfl, ?_⟩) (by assumption) ?_
      rotate_left
      · intro w hSw; (try dsimp only at hSw); go_simp; first | done | (with_reducible rfl)
      simp only [Act.put, List.setIfInBounds_toArray, List.set_cons_zero, List.set_cons_succ]
      refine tk_dst (i := 6) (dst := some 57) rfl rfl (by kernel_rfl) (by kernel_rfl) (by kernel_rfl) (fun _ _ _ h => h) (v := ?_) (Or.inl ⟨by rfl, ?_⟩) (by assumption) ?_
      rotate_left
      · intro w hSw; (try dsimp only at hSw); go_simp; first | done | (with_reducible rfl)
      simp only [Act.put, List.setIfInBounds_toArray, List.set_cons_zero, List.set_cons_succ]
      refine tk_dst (i := 7) (dst := some 58) rfl rfl (by kernel_rfl) (by kernel_rfl) (by kernel_rfl) (fun _ _ _ h => h) (v := ?_) (Or.inl ⟨by rfl, ?_⟩) (by assumption) ?_
      rotate_left
      · intro w hSw; (try dsimp only at hSw); go_simp; first | done | (with_reducible rfl)
      simp only [Act.put, List.setIfInBounds_toArray, List.set_cons_zero, List.set_cons_succ]
      refine tk_dst (i := 8) (dst := some 59) rfl rfl (by kernel_rfl) (by kernel_rfl) (by kernel_rfl) (fun _ _ _ h => h) (v := undef) (Or.inr ⟨by rfl, rfl⟩) (by assumption) ?_
      simp only [Act.put, List.setIfInBounds_toArray, List.set_cons_zero, List.set_cons_succ]
      refine tk_dst (i := 9) (dst := some 60) rfl rfl (by kernel_rfl) (by kernel_rfl) (by kernel_rfl) (fun _ _ _ h => h) (v := undef) (Or.inr ⟨by rfl, rfl⟩) (by assumption) ?_
      simp only [Act.put, List.setIfInBounds_toArray, List.set_cons_zero, List.set_cons_succ]
      refine tk_dst (i := 10) (dst := some 61) rfl rfl (by kernel_rfl) (by kernel_rfl) (by kernel_rfl) (fun _ _ _ h => h) (v := undef) (Or.inr ⟨by rfl, rfl⟩) (by assumption) ?_
      simp only [Act.put, List.setIfInBounds_toArray, List.set_cons_zero, List.set_cons_succ]
      refine tk_dst (i := 11) (dst := some 62) rfl rfl (by kernel_rfl) (by kernel_rfl) (by kernel_rfl) (fun _ _ _ h => h) (v := undef) (Or.inr ⟨by rfl, rfl⟩) (by assumption) ?_
      simp only [Act.put, List.setIfInBounds_toArray, List.set_cons_zero, List.set_cons_succ]
      refine tk_dst (i := 12) (dst := some 63) rfl rfl (by kernel_rfl) (by kernel_rfl) (by kernel_rfl) (fun _ _ _ h => h) (v := ?_) (Or.inl ⟨by rfl, ?_⟩) (by assumption) ?_
      rotate_left
      · intro w hSw; (try dsimp only at hSw); go_simp; first | done | (with_reducible rfl)
      simp only [Act.put, List.setIfInBounds_toArray, List.set_cons_zero, List.set_cons_succ]
      refine wpAnyH_ready (rs := [13]) (by kernel_rfl) (by simp) ?_
      refine AllReadyH.cons rfl (fun K hK => ?_) AllReadyH.nil
      refine step_st_any (by rfl) w.heap.size 30 (hdL HN.zero Sl.nil) L (by rfl) (by rfl) hA8 (by rw [HLl.out]; rfl) (by rw [HLl.out]; exact hd_info) HLo.out ?_
      intro w9 hA9 hk9
      have hH9 := hH8.kept hk9 (by omega)
      have hc9 := (hH9.cell 17).trans HL17.out
      refine hK.out _ _ ⟨hc9, hH9.rangeAt⟩ (fun hHeld => ?_)
      clear hK K
      refine tk_dst (i := 14) (dst := some 5) rfl rfl (by kernel_rfl) (by kernel_rfl) (by kernel_rfl) (fun _ _ _ h => h) (v := ?_) (Or.inl ⟨by rfl, ?_⟩) (by assumption) ?_
      rotate_left
      · intro w hSw; (try dsimp only at hSw); go_simp; first | done | (with_reducible rfl)
      simp only [Act.put, List.setIfInBounds_toArray, List.set_cons_zero, List.set_cons_succ]
      refine tk_dst (i := 15) (dst := some 6) rfl rfl (by kernel_rfl) (by kernel_rfl) (by kernel_rfl) (fun _ _ _ h => h) (v := ?_) (Or.inl ⟨by rfl, ?_⟩) (by assumption) ?_
      rotate_left
      · intro w hSw; (try dsimp only at hSw); go_simp; first | done | (with_reducible rfl)
      simp only [Act.put, List.setIfInBounds_toArray, List.set_cons_zero, List.set_cons_succ]
      refine wpAnyH_done (by kernel_rfl) ?_ _
      go_wp2_with fail
      refine bodyPost_ret (results_cell_tmp2 4 5 6 30 (by rfl) _ 30 _ _ _ _ (by rfl) (by rfl) (by rfl) hA9 Try.underlying30 rfl (by rw [HLl.out]; exact hd_info)) rfl ?_
      refine ⟨Sl.nil, ?_, ?_, ?_, (hk07.trans hk8).trans' hk9 (fun j hj => .inr (by omega))⟩
      · rw [HN1.out, HN2.out, HB1.out, HB2.out, HS3.out, HS4.out, HTOK.out.2, HTOK.out.1, HLv.out]
        first | rfl | simp
      · rw [HS3.out, HS4.out, HTOK.out.1]
        exact ((hin7.kept hk8 (fun b hb e => by omega)).kept hk9 (fun b hb e => by omega)).mono (fun b _ hb => by omega)
      · rw [HS3.out, HS4.out, HTOK.out.2]
        exact (hr8.kept hk9 (by omega) (fun b hb e => by omega)).mono (fun b _ hb => hb.1)
    case true =>
      refine wp_region_held_drew (S := (fun w' => w'.cell? ⟨g12, 17, none⟩ = some (.slice none 0 0) ∧ w'.rangeAt g12 0 L)) (by kernel_rfl) (⟨hc7', hH7.rangeAt⟩) (fun hHeld => ?_)
      refine tk_dst (i := 0) (dst := some 51) rfl rfl (by kernel_rfl) (by kernel_rfl) (by kernel_rfl) (fun _ _ _ h => h) (v := ?_) ?_ (by assumption) ?_
      rotate_left
      · refine yl_any 30 ?ylx0 ?ylo0 ?ylb0 ?ylq0 ?ylp0 L _ ?ylS0 Try.underlying30 rfl ?yli0 ?ylw0
        case ylo0 => rfl
        case ylp0 => rfl
        case ylS0 => intro w hSw; exact hSw.2
        case yli0 => rw [HLl.out]; exact hd_info
        case ylw0 => rfl
      simp only [Act.put, List.setIfInBounds_toArray, List.set_cons_zero, List.set_cons_succ]
      refine tk_dst (i := 1) (dst := some 52) rfl rfl (by kernel_rfl) (by kernel_rfl) (by kernel_rfl) (fun _ _ _ h => h) (v := ?_) (Or.inl ⟨by rfl, ?_⟩) (by assumption) ?_
      rotate_left
      · intro w hSw; (try dsimp only at hSw); go_simp; first | done | (with_reducible rfl)
      simp only [Act.put, List.setIfInBounds_toArray, List.set_cons_zero, List.set_cons_succ]
      refine tk_dst (i := 3) (dst := some 54) rfl rfl (by kernel_rfl) (by kernel_rfl) (by kernel_rfl) (fun _ _ _ h => h) (v := ?_) (Or.inl ⟨by rfl, ?_⟩) (by assumption) ?_
      rotate_left
      · intro w hSw; (try dsimp only at hSw); go_simp; first | done | (with_reducible rfl)
      simp only [Act.put, List.setIfInBounds_toArray, List.set_cons_zero, List.set_cons_succ]
      refine wpAnyH_ready (rs := [2]) (by kernel_rfl) (by simp) ?_
      refine AllReadyH.cons rfl (fun K hK => ?_) AllReadyH.nil
      go_simp
      go_wp2_with ((go_at_call 101; refine (var_any p T _ s4 _ hr7 hP').mono ?_; rintro e w8 ⟨rfl, hr8, hk8⟩; have hH8 := hH7.kept hk8 (by omega); have hA8 := hA7.kept hk8 (by omega); have hc8 := (hH8.cell 17).trans HL17.out))
      refine hK.out _ _ (⟨hc8, hH8.rangeAt⟩) (fun hHeld => ?_)
      clear hK K
      refine tk_dst (i := 4) (dst := some 55) rfl rfl (by kernel_rfl) (by kernel_rfl) (by kernel_rfl) (fun _ _ _ h => h) (v := ?_) (Or.inl ⟨by rfl, ?_⟩) (by assumption) ?_
      rotate_left
      · intro w hSw; (try dsimp only at hSw); go_simp; first | done | (with_reducible rfl)
      simp only [Act.put, List.setIfInBounds_toArray, List.set_cons_zero, List.set_cons_succ]
      refine tk_dst (i := 5) (dst := some 56) rfl rfl (by kernel_rfl) (by kernel_rfl) (by kernel_rfl) (fun _ _ _ h => h) (v := ?_) (Or.inl ⟨by rfl, ?_⟩) (by assumption) ?_
      rotate_left
      · intro w hSw; (try dsimp only at hSw); go_simp; first | done | (with_reducible rfl)
      simp only [Act.put, List.setIfInBounds_toArray, List.set_cons_zero, List.set_cons_succ]
      refine tk_dst (i := 6) (dst := some 57) rfl rfl (by kernel_rfl) (by kernel_rfl) (by kernel_rfl) (fun _ _ _ h => h) (v := ?_) (Or.inl ⟨by rfl, ?_⟩) (by assumption) ?_
      rotate_left
      · intro w hSw; (try dsimp only at hSw); go_simp; first | done | (with_reducible rfl)
      simp only [Act.put, List.setIfInBounds_toArray, List.set_cons_zero, List.set_cons_succ]
      refine tk_dst (i := 7) (dst := some 58) rfl rfl (by kernel_rfl) (by kernel_rfl) (by kernel_rfl) (fun _ _ _ h => h) (v := ?_) (Or.inl ⟨by rfl, ?_⟩) (by assumption) ?_
      rotate_left
      · intro w hSw; (try dsimp only at hSw); go_simp; first | done | (with_reducible rfl)
      simp only [Act.put, List.setIfInBounds_toArray, List.set_cons_zero, List.set_cons_succ]
      refine tk_dst (i := 8) (dst := some 59) rfl rfl (by kernel_rfl) (by kernel_rfl) (by kernel_rfl) (fun _ _ _ h => h) (v := ?_) (Or.inl ⟨by rfl, ?_⟩) (by assumption) ?_
      rotate_left
      · intro w hSw; (try dsimp only at hSw); go_simp; first | done | (with_reducible rfl)
      simp only [Act.put, List.setIfInBounds_toArray, List.set_cons_zero, List.set_cons_succ]
      refine tk_dst (i := 9) (dst := some 60) rfl rfl (by kernel_rfl) (by kernel_rfl) (by kernel_rfl) (fun _ _ _ h => h) (v := ?_) (Or.inl ⟨by rfl, ?_⟩) (by assumption) ?_
      rotate_left
      · intro w hSw; (try dsimp only at hSw); go_simp; first | done | (with_reducible rfl)
      simp only [Act.put, List.setIfInBounds_toArray, List.set_cons_zero, List.set_cons_succ]
      refine tk_dst (i := 10) (dst := some 61) rfl rfl (by kernel_rfl) (by kernel_rfl) (by kernel_rfl) (fun _ _ _ h => h) (v := ?_) (Or.inl ⟨by rfl, ?_⟩) (by assumption) ?_
      rotate_left
      · intro w hSw; (try dsimp only at hSw); go_simp; first | done | (with_reducible rfl)
      simp only [Act.put, List.setIfInBounds_toArray, List.set_cons_zero, List.set_cons_succ]
      refine tk_dst (i := 11) (dst := some 62) rfl rfl (by kernel_rfl) (by kernel_rfl) (by kernel_rfl) (fun _ _ _ h => h) (v := ?_) (Or.inl ⟨by rfl, ?_⟩) (by assumption) ?_
      rotate_left
      · intro w hSw; (try dsimp only at hSw); go_simp; first | done | (with_reducible rfl)
      simp only [Act.put, List.setIfInBounds_toArray, List.set_cons_zero, List.set_cons_succ]
      refine tk_dst (i := 12) (dst := some 63) rfl rfl (by kernel_rfl) (by kernel_rfl) (by kernel_rfl) (fun _ _ _ h => h) (v := ?_) (Or.inl ⟨by rfl, ?_⟩) (by assumption) ?_
      rotate_left
      · intro w hSw; (try dsimp only at hSw); go_simp; first | done | (with_reducible rfl)
      simp only [Act.put, List.setIfInBounds_toArray, List.set_cons_zero, List.set_cons_succ]
      refine wpAnyH_ready (rs := [13]) (by kernel_rfl) (by simp) ?_
      refine AllReadyH.cons rfl (fun K hK => ?_) AllReadyH.nil
      refine step_st_any (by rfl) w.heap.size 30 (hdL HN.zero Sl.nil) L (by rfl) (by rfl) hA8 (by rw [HLl.out]; rfl) (by rw [HLl.out]; exact hd_info) HLo.out ?_
      intro w9 hA9 hk9
      have hH9 := hH8.kept hk9 (by omega)
      have hc9 := (hH9.cell 17).trans HL17.out
      refine hK.out _ _ ⟨hc9, hH9.rangeAt⟩ (fun hHeld => ?_)
      clear hK K
      refine tk_dst (i := 14) (dst := some 5) rfl rfl (by kernel_rfl) (by kernel_rfl) (by kernel_rfl) (fun _ _ _ h => h) (v := ?_) (Or.inl ⟨by rfl, ?_⟩) (by assumption) ?_
      rotate_left
      · intro w hSw; (try dsimp only at hSw); go_simp; first | done | (with_reducible rfl)
      simp only [Act.put, List.setIfInBounds_toArray, List.set_cons_zero, List.set_cons_succ]
      refine tk_dst (i := 15) (dst := some 6) rfl rfl (by kernel_rfl) (by kernel_rfl) (by kernel_rfl) (fun _ _ _ h => h) (v := ?_) (Or.inl ⟨by rfl, ?_⟩) (by assumption) ?_
      rotate_left
      · intro w hSw; (try dsimp only at hSw); go_simp; first | done | (with_reducible rfl)
      simp only [Act.put, List.setIfInBounds_toArray, List.set_cons_zero, List.set_cons_succ]
      refine wpAnyH_done (by kernel_rfl) ?_ _
      go_wp2_with fail
      refine bodyPost_ret (results_cell_tmp2 4 5 6 30 (by rfl) _ 30 _ _ _ _ (by rfl) (by rfl) (by rfl) hA9 Try.underlying30 rfl (by rw [HLl.out]; exact hd_info)) rfl ?_
      refine ⟨Sl.nil, ?_, ?_, ?_, (hk07.trans hk8).trans' hk9 (fun j hj => .inr (by omega))⟩
      · rw [HN1.out, HN2.out, HB1.out, HB2.out, HS3.out, HS4.out, HTOK.out.2, HTOK.out.1, HLv.out]
        first | rfl | simp
      · rw [HS3.out, HS4.out, HTOK.out.1]
        exact ((hin7.kept hk8 (fun b hb e => by omega)).kept hk9 (fun b hb e => by omega)).mono (fun b _ hb => by omega)
      · rw [HS3.out, HS4.out, HTOK.out.2]
        exact (hr8.kept hk9 (by omega) (fun b hb e => by omega)).mono (fun b _ hb => hb.1)
end Go.Proofs.Ytehdilgnlhhjdaa
