/-
  A head's bytes, and what bytes say of a head: what was written is read, beginnings are none.
-/
import Derived.Test.YtehdilgnlhhjdaaMq4
import Derived.Test.YtehdilgnlhhjdaaMq9
namespace Go.Proofs.Ytehdilgnlhhjdaa
section
set_option linter.unusedVariables false
open Go.RowKit
/-- A head's first byte. -/
def hfirst (m : HN) : Int := if m.s = 2 then (if m.ph then 67 + m.w else 63 + m.w) else 191 + 16 * m.s + m.w
/-- A head's bytes, n more behind it. -/
def hencS (m : HN) (tok : List Int) (n : Int) : List Int :=
  if m.s = 2 then hfirst m :: m.t.l
  else [hfirst m, 0, 0, 0, 1, 8] ++ m.t.l ++ [8] ++ m.f.l ++ (if m.s = 0 then textB tok else []) ++ twoB (16384 + n)
/-- What is behind a name that its length is written ahead of. -/
def lgN (s : St) : St := takeN (takeN s 1) 8
def lgR (s : St) : List Int := takeR (takeN s 1) 8
/-- The token, and what is behind it. -/
def tokR (s : St) (sp : Int) : List Int := if sp = 0 then textR s else []
def tokN (s : St) (sp : Int) : St := if sp = 0 then textN s else s
abbrev HO := Option (HN × List Int × Int × Int)
/-- What is behind the version says. -/
def htailS (s2 : St) (sp : Int) (len : Int) (ok : Bool) : HO :=
  if ok = true ∧ byteR s2 = 8 ∧ byteR (lgN s2) = 8 ∧ (tokR (lgN (lgN s2)) sp).length ≤ 32 ∧ (varN (tokN (lgN (lgN s2)) sp)).2 = false ∧ 12 ≤ varR (tokN (lgN (lgN s2)) sp) ∧ varR (tokN (lgN (lgN s2)) sp) ≤ (varN (tokN (lgN (lgN s2)) sp)).1.length
  then some (⟨sp, N8.of (lgR s2), N8.of (lgR (lgN s2)), 1, false⟩, tokR (lgN (lgN s2)) sp, len - (varN (tokN (lgN (lgN s2)) sp)).1.length, len - (varN (tokN (lgN (lgN s2)) sp)).1.length + varR (tokN (lgN (lgN s2)) sp)) else none
def parseS (bs : List Int) : HO :=
  let s1 := takeN (bs, false) 1
  let x := byteR (bs, false)
  if x / 64 % 2 = 0 then none
  else if x / 128 = 0 then
    (if (takeN s1 8).2 = false ∧ 12 ≤ (takeN s1 8).1.length then some (⟨2, N8.of (takeR s1 8), .zero, 1, false⟩, [], 9, bs.length) else none)
  else htailS (takeN s1 4) (x / 16 % 4) bs.length (decide (x / 16 % 4 ≤ 1 ∧ takeR s1 4 = [0, 0, 0, 1]))
theorem takeN_takeN (s : St) (a b : Int) (ha : 0 ≤ a) (hb : 0 ≤ b) (h : s.2 = true → s.1 = []) : takeN (takeN s a) b = takeN s (a + b) ∨ (a = 0 ∧ b = 0) ∨ b = 0 := by
  obtain ⟨bs, bad⟩ := s
  by_cases hb0 : b = 0
  · exact .inr (.inr hb0)
  left
  obtain ⟨n, rfl⟩ := Int.eq_ofNat_of_zero_le ha
  obtain ⟨k, rfl⟩ := Int.eq_ofNat_of_zero_le hb
  unfold takeN
  by_cases h1 : n ≤ bs.length
  · rw [if_pos (show (0 : Int) ≤ (n : Int) ∧ (n : Int) ≤ (bs.length : Int) by omega)]
    by_cases h2 : n + k ≤ bs.length
    · rw [if_pos (by simp; omega), if_pos (by simp; omega)]
      simp [show ((n : Int) + (k : Int)).toNat = n + k by omega]
    · rw [if_neg (by simp; omega), if_neg (by simp; omega)]
  · rw [if_neg (show ¬ ((0 : Int) ≤ (n : Int) ∧ (n : Int) ≤ (bs.length : Int)) by omega), if_neg (by simp; omega), if_neg (by simp; omega)]
theorem take_cons (x : Int) (l : List Int) : byteR (x :: l, false) = x ∧ takeN (x :: l, false) 1 = (l, false) := by
  have h := take_app [x] l 1 rfl
  unfold byteR
  rw [show x :: l = [x] ++ l from rfl, h.1, h.2]
  exact ⟨rfl, rfl⟩
theorem lg_app (m : N8) (l : List Int) : lgR (8 :: (m.l ++ l), false) = m.l ∧ lgN (8 :: (m.l ++ l), false) = (l, false) := by
  unfold lgR lgN
  rw [(take_cons _ _).2]
  exact take_app m.l l 8 rfl
theorem var_two14 (n : Int) (h0 : 0 ≤ n) (h1 : n ≤ 16383) (l : List Int) : varR (twoB (16384 + n) ++ l, false) = n ∧ varN (twoB (16384 + n) ++ l, false) = (l, false) := by
  have e : getS (twoB (16384 + n) ++ l) = (n, 2) := by
    unfold getS twoB
    simp only [List.cons_append, List.nil_append, List.getD_cons_zero]
    rw [if_neg (by simp)]
    have hs : szS ((16384 + n) / 256) = 2 := by
      have h1 : 64 ≤ (16384 + n) / 256 ∧ (16384 + n) / 256 < 128 := by omega
      unfold szS; rw [if_neg (by omega), if_pos (by omega)]
    rw [hs]
    rw [if_neg (by simp)]
    simp only [List.take_succ_cons, List.take_zero, List.drop_succ_cons, List.drop_zero, foldS]
    refine Prod.ext ?_ rfl
    simp only [List.foldl]
    omega
  unfold varR varN
  simp only [e]
  rw [if_neg (by decide), if_neg (by decide)]
  exact ⟨rfl, (take_app (twoB (16384 + n)) l 2 rfl).2⟩
theorem hfirst_bd (m : HN) (h0 : 0 ≤ m.s) (h2 : m.s ≤ 2) (w0 : 1 ≤ m.w) (w4 : m.w ≤ 4) : 0 ≤ hfirst m ∧ hfirst m < 256 ∧ hfirst m / 64 % 2 = 1 ∧ (m.s = 2 → hfirst m / 128 = 0) ∧ (m.s ≠ 2 → hfirst m / 128 = 1 ∧ hfirst m / 16 % 4 = m.s) := by
  unfold hfirst
  by_cases h : m.s = 2
  · rw [if_pos h]
    refine ⟨?_, ?_, ?_, ?_, fun h' => absurd h h'⟩ <;> (split <;> omega)
  · rw [if_neg h]
    refine ⟨by omega, by omega, by omega, fun h' => absurd h' h, fun _ => ⟨by omega, by omega⟩⟩
/-- What was written is read. -/
theorem parse_enc (m : HN) (tok : List Int) (n : Int) (l : List Int) (h0 : 0 ≤ m.s) (h2 : m.s ≤ 2) (w0 : 1 ≤ m.w) (w4 : m.w ≤ 4) (ht : tok.length ≤ 32) (ht0 : m.s ≠ 0 → tok = []) (hf : m.s = 2 → m.f = .zero)
    (hn : 12 ≤ n) (hn1 : n ≤ 16383) (hl : n ≤ l.length) :
    parseS (hencS m tok n ++ l) = some ((⟨m.s, m.t, m.f, 1, false⟩ : HN), tok, ((hencS m tok n).length : Int), if m.s = 2 then ((hencS m tok n ++ l).length : Int) else (hencS m tok n).length + n) := by
  obtain ⟨b0, b1, b2, b3, b4⟩ := hfirst_bd m h0 h2 w0 w4
  by_cases h : m.s = 2
  · have e : hencS m tok n = hfirst m :: m.t.l := by unfold hencS; rw [if_pos h]
    rw [e, if_pos h]
    unfold parseS
    simp only [List.cons_append, (take_cons _ _).1, (take_cons _ _).2]
    have t8 := take_app m.t.l l 8 rfl
    have c : ((l, false) : St).2 = false ∧ 12 ≤ ((l, false) : St).1.length := ⟨rfl, by simp only; omega⟩
    rw [if_neg (by omega), if_pos (b3 h), t8.1, t8.2, if_pos c, h, hf h, ht0 (by omega)]
    rfl
  · have e : hencS m tok n = hfirst m :: ([0, 0, 0, 1] ++ (8 :: (m.t.l ++ (8 :: (m.f.l ++ ((if m.s = 0 then textB tok else []) ++ twoB (16384 + n))))))) := by
      unfold hencS; rw [if_neg h]; simp
    rw [if_neg h]
    have e2 : hencS m tok n ++ l = hfirst m :: ([0, 0, 0, 1] ++ (8 :: (m.t.l ++ (8 :: (m.f.l ++ ((if m.s = 0 then textB tok else []) ++ (twoB (16384 + n) ++ l))))))) := by
      rw [e]; simp
    have hlen : ((hencS m tok n ++ l).length : Int) - l.length = (hencS m tok n).length := by rw [List.length_append]; omega
    unfold parseS
    rw [e2]
    simp only [(take_cons _ _).1, (take_cons _ _).2]
    obtain ⟨b5, b6⟩ := b4 h
    rw [if_neg (by omega), if_neg (by omega), b6]
    have t4 := take_app [0, 0, 0, 1] (8 :: (m.t.l ++ (8 :: (m.f.l ++ ((if m.s = 0 then textB tok else []) ++ (twoB (16384 + n) ++ l)))))) 4 rfl
    rw [t4.1, t4.2, ← e2]
    unfold htailS
    simp only [(lg_app _ _).1, (lg_app _ _).2, (take_cons _ _).1]
    have tk : tokR ((if m.s = 0 then textB tok else []) ++ (twoB (16384 + n) ++ l), false) m.s = tok ∧ tokN ((if m.s = 0 then textB tok else []) ++ (twoB (16384 + n) ++ l), false) m.s = (twoB (16384 + n) ++ l, false) := by
      unfold tokR tokN
      by_cases hs : m.s = 0
      · simp only [if_pos hs]
        exact text_app tok _ (by omega)
      · simp only [if_neg hs]
        exact ⟨(ht0 hs).symm, rfl⟩
    rw [tk.1, tk.2, (var_two14 n (by omega) hn1 l).1, (var_two14 n (by omega) hn1 l).2]
    have hd : decide (m.s ≤ 1 ∧ True) = true := by simp; omega
    rw [if_pos ⟨hd, trivial, trivial, ht, rfl, hn, hl⟩]
    simp only [N8.of_l, hlen]
end
section
set_option linter.unusedVariables false
set_option linter.unusedSimpArgs false
open Go.RowKit
set_option maxRecDepth 100000 in
set_option maxHeartbeats 1000000 in
theorem hname_any (p : Nat) (T : TypeId) (P : Nat → Prop) (s : St) (w : World) (hr : Rdr w p T P s) (hP : ∀ b, P b → b ≠ p) (hl : s.1.length ≤ 140737488355000) :
    Calls Try.prog 91 #[.pointer (some ⟨p, 0, none⟩)] w (CidPost w p T P s) := by
  have hpl : p < w.heap.size := by obtain ⟨_, _, _, h, _⟩ := hr; exact h.lt
  obtain ⟨N, hN⟩ : ∃ N, (takeR s 8).length = N := ⟨_, rfl⟩
  have hN8 : N ≤ 8 := by rcases takeR8 s with h | h; omega; rw [h] at hN; simp at hN; omega
  have HN := Lib.hid hN
  have hsp : splice (List.replicate 8 (Value.int .u8 0)) 0 ((takeR s 8).map (Value.int .u8)) = (cid8 (takeR s 8)).map (Value.int .u8) := by
    rcases takeR8 s with h | h
    · rw [cid8_full _ h]
      match takeR s 8, h with
      | [a, b, c, d, e, f, g, i], _ => rfl
    · rw [h]; rfl
  have HSP := Lib.hid hsp
  have hc8 : ((cid8 (takeR s 8)).map (Value.int .u8)).length = 8 := rfl
  have hr' := hr.mono (P' := fun b => P b ∧ b < w.heap.size) (fun b hb hP => ⟨hP, hb⟩)
  have hP' : ∀ b, (P b ∧ b < w.heap.size) → b ≠ p := fun b hb => hP b hb.1
  have hrA : Rdr ((w.alloc (.cells (List.replicate 8 (Value.int .u8 0)).toArray 27)).alloc (.cells (List.replicate 8 (Value.int .u8 0)).toArray 27)) p T (fun b => P b ∧ b < w.heap.size) s :=
    hr'.kept (((Kept.refl (fun _ => False) w).alloc _).alloc _) (fun h => h) (fun _ _ h => h)
  have hbA : Below w.heap.size w ((w.alloc (.cells (List.replicate 8 (Value.int .u8 0)).toArray 27)).alloc (.cells (List.replicate 8 (Value.int .u8 0)).toArray 27)) := ((Below.refl _ _).alloc (Nat.le_refl _) _).alloc (by simp) _
  have hA2 : At ((w.alloc (.cells (List.replicate 8 (Value.int .u8 0)).toArray 27)).alloc (.cells (List.replicate 8 (Value.int .u8 0)).toArray 27)) w.heap.size 27 (List.replicate 8 (Value.int .u8 0)) := (At.new w _ _).alloc _
  have hA3 : At ((w.alloc (.cells (List.replicate 8 (Value.int .u8 0)).toArray 27)).alloc (.cells (List.replicate 8 (Value.int .u8 0)).toArray 27)) (w.heap.size + 1) 27 (List.replicate 8 (Value.int .u8 0)) := At.new_ _ _ _ (by simp)
  clear hN hsp
  go_enter Try.func91, Try.ntmps91
  go_wp2_with fail
  change (Code.region _ _ _).wp _ _ _ ((w.alloc (.cells (List.replicate 8 (Value.int .u8 0)).toArray 27)).alloc (.cells (List.replicate 8 (Value.int .u8 0)).toArray 27))
  obtain ⟨w1, hw1⟩ : ∃ w1, (w.alloc (.cells (List.replicate 8 (Value.int .u8 0)).toArray 27)).alloc (.cells (List.replicate 8 (Value.int .u8 0)).toArray 27) = w1 := ⟨_, rfl⟩
  rw [hw1] at hrA hbA hA2 hA3 ⊢
  clear hw1
  have hrA := hrA.drewN 1
  have hA2 := hA2.drew
  have hA3 := hA3.drew
  have hp3 := hA3.lt

  refine wp_region_held_drew (S := (fun _ => True)) (by kernel_rfl) (trivial) (fun hHeld => ?_)
  refine tk_dst (i := 0) (dst := some 4) rfl rfl (by kernel_rfl) (by kernel_rfl) (by kernel_rfl) (fun _ _ _ h => h) (v := ?_) (Or.inl ⟨by rfl, ?_⟩) (by assumption) ?_
  rotate_left
  · intro w hSw; (try dsimp only at hSw); go_simp; first | done | (with_reducible rfl)
  simp only [Act.put, List.setIfInBounds_toArray, List.set_cons_zero, List.set_cons_succ]
  refine tk_dst (i := 1) (dst := some 5) rfl rfl (by kernel_rfl) (by kernel_rfl) (by kernel_rfl) (fun _ _ _ h => h) (v := ?_) (Or.inl ⟨by rfl, ?_⟩) (by assumption) ?_
  rotate_left
  · intro w hSw; (try dsimp only at hSw); go_simp; first | done | (with_reducible rfl)
  simp only [Act.put, List.setIfInBounds_toArray, List.set_cons_zero, List.set_cons_succ]
  refine wpAnyH_ready (rs := [2]) (by kernel_rfl) (by simp) ?_
  refine AllReadyH.cons rfl (fun K hK => ?_) AllReadyH.nil
  go_simp
  go_wp2_with ((go_at_call 97; refine (raw_any p T (fun b => P b ∧ b < w.heap.size) s 8 _ hrA hP' hl).mono ?_; rintro e w2 ⟨v2, rfl, hown, hr2, hk2⟩; obtain ⟨A2, c2, rfl, g1, g2, g3⟩ := hown.open_n N HN.out))
  refine hK.out _ _ (trivial) (fun hHeld => ?_)
  clear hK K
  have B2 := hA2.kept hk2 (by omega)
  have B3 := hA3.kept hk2 (by omega)
  have hpa : N ≤ 8 := hN8
  refine wpAnyH_ready (rs := [3]) (by kernel_rfl) (by simp) ?_
  refine AllReadyH.cons rfl (fun K hK => ?_) AllReadyH.nil
  refine step_copy_splice rfl (.tmp 4) (.tmp 6) 28 28 rfl 5 Try.underlying28 (by kernel_rfl) (some ⟨w.heap.size + 1, 0, none⟩) A2 8 8 N c2 rfl rfl (w.heap.size + 1) 0 (List.replicate 8 (Value.int .u8 0)) 27 B3 ((takeR s 8).map (Value.int .u8))
    (by rw [List.length_map, HN.out]; exact (Nat.min_eq_left hN8).symm) (fun hp => ⟨rfl, g3.cells (by rw [List.length_map, HN.out] at hp; exact hp)⟩) (by rw [List.length_map, HN.out]; simp; omega) (oneCell_u8 _) (w.heap.size + 1) w2 (Below.refl _ _) (Nat.le_refl _) ?_
  intro w3 hb3 hbl3
  rw [HSP.out] at hb3
  refine hK.out _ _ trivial (fun hHeld => ?_)
  clear hK K
  refine wpAnyH_done (by kernel_rfl) ?_ _
  have C3 : At w3 (w.heap.size + 1) 27 ((cid8 (takeR s 8)).map (Value.int .u8)) := hb3.out
  have C2 := B2.below hbl3 (by omega)
  have hr3 := hr2.kept (Kept.of_belowB hbl3) (by omega) (fun b hb hs => by omega)
  have hk3 : Kept (· = p) w w3 := ((Kept.of_below hbA _).trans hk2.from_drewN).trans' (Kept.of_belowB hbl3) (fun j hj => .inr (by omega))
  go_wp2_with (first | (refine wpList_load_at (ty := 27) (w.heap.size + 1) _ ((cid8 (takeR s 8)).map (Value.int .u8)) _ (by rfl) C3 Try.underlying27 rfl cid_info ?_) | (refine wpList_store_at (ty := 27) w.heap.size _ (List.replicate 8 (Value.int .u8 0)) ((cid8 (takeR s 8)).map (Value.int .u8)) (by rfl) (by rfl) C2 rfl cid_info (by rfl) ?_; intro w4 D4 hk4) | fail)
  refine bodyPost_ret (results_cell 2 27 (by rfl) _ 27 _ _ (by rfl) D4 Try.underlying27 rfl cid_info) rfl ?_
  exact ⟨rfl, (hr3.kept hk4 (by omega) (fun b hb hs => by omega)).mono (fun b _ hb => hb.1), hk3.trans' hk4 (fun j hj => .inr (by omega))⟩
def LgPost (w : World) (p : Nat) (T : TypeId) (P : Nat → Prop) (s : St) (e : Ending) (w' : World) : Prop :=
  e = .returned (.tuple #[(N8.of (lgR s)).v, .bool (byteR s == 8)]) ∧ Rdr w' p T P (lgN s) ∧ Kept (· = p) w w'
theorem byteR_bd (s : St) (hb : Byt s.1) : 0 ≤ byteR s ∧ byteR s < 256 := by
  unfold byteR takeR
  split
  · exact (hb.take _).getD 0
  · simp
set_option maxRecDepth 100000 in
set_option maxHeartbeats 1000000 in
theorem lname_any (p : Nat) (T : TypeId) (P : Nat → Prop) (s : St) (w : World) (hr : Rdr w p T P s) (hP : ∀ b, P b → b ≠ p) (hl : s.1.length ≤ 1000000) :
    Calls Try.prog 99 #[.pointer (some ⟨p, 0, none⟩)] w (LgPost w p T P s) := by
  have hpl : p < w.heap.size := by obtain ⟨_, _, _, h, _⟩ := hr; exact h.lt
  have hbd := byteR_bd s hr.byt
  have hr' := hr.mono (P' := fun b => P b ∧ b < w.heap.size) (fun b hb hP => ⟨hP, hb⟩)
  have hP' : ∀ b, (P b ∧ b < w.heap.size) → b ≠ p := fun b hb => hP b hb.1
  have hrA : Rdr (w.alloc (.cells (List.replicate 8 (Value.int .u8 0)).toArray 27)) p T (fun b => P b ∧ b < w.heap.size) s :=
    hr'.kept ((Kept.refl (fun _ => False) w).alloc _) (fun h => h) (fun _ _ h => h)
  have hA2 : At (w.alloc (.cells (List.replicate 8 (Value.int .u8 0)).toArray 27)) w.heap.size 27 (List.replicate 8 (Value.int .u8 0)) := At.new w _ _
  have hk0 : Kept (· = p) w (w.alloc (.cells (List.replicate 8 (Value.int .u8 0)).toArray 27)) := (Kept.refl _ _).alloc _
  have hle : (takeN s 1).1.length ≤ s.1.length := takeN_le s 1
  obtain ⟨x, hx⟩ : ∃ x, byteR s = x := ⟨_, rfl⟩
  have HX := Lib.hid hx
  rw [hx] at hbd
  clear hx
  go_enter Try.func99, Try.ntmps99
  go_wp2_with fail
  refine (byte_any p T _ s _ hrA hP').mono ?_
  rintro e w1 ⟨rfl, hr1, hk1⟩
  rw [HX.out]
  have hA1 := hA2.kept hk1 (by omega)
  have hk01 := hk0.trans hk1
  have hs1 := hk1.size
  clear hrA hA2 hk1 hk0
  go_wp2_with fail
  refine (hname_any p T _ (takeN s 1) w1 hr1 hP' (by omega)).mono ?_
  rintro e w2 ⟨rfl, hr2, hk2⟩
  have hA2 := hA1.kept hk2 (by omega)
  have hk02 := hk01.trans hk2
  have hcv : cid8 (takeR (takeN s 1) 8) = (N8.of (lgR s)).l := rfl
  rw [hcv]
  obtain ⟨C, hC⟩ : ∃ C, ((N8.of (lgR s)).l.map (Value.int .u8)) = C := ⟨_, rfl⟩
  have hCl : C.length = 8 := by rw [← hC]; rfl
  have hCo : C.all (·.oneCell') = true := by rw [← hC]; rfl
  rw [hC]
  have HC := Lib.hid hC
  have HCl := Lib.hid hCl
  have HCo := Lib.hid hCo
  clear hC hCl hCo hcv
  go_wp2_with (first | (refine wpList_store_at (ty := 27) w.heap.size _ (List.replicate 8 (Value.int .u8 0)) C (by rfl) (by rfl) hA2 (by rw [HCl.out]; rfl) (by rw [HCl.out]; exact cid_info) HCo.out ?_; intro w3 hA3 hk3) | fail)
  refine bodyPost_ret (results_cell_tmp 2 3 27 (by rfl) _ 27 _ _ _ (by rfl) (by rfl) hA3 Try.underlying27 rfl (by rw [HCl.out]; exact cid_info)) rfl ?_
  refine ⟨?_, (hr2.kept hk3 (by omega) (fun b hb hs => by omega)).mono (fun b _ hb => hb.1), hk02.trans' hk3 (fun j hj => .inr (by omega))⟩
  rw [N8.v_l, HC.out, HX.out]
  rfl
end
end Go.Proofs.Ytehdilgnlhhjdaa
