/-
  The document's own Parse (narthexref5): what it says is parseS. The state behind each part.
-/
import Derived.Test.YtbioajgmceodhaaHp
import Derived.Test.YtbioajgmceodhaaHkn
namespace Go.Proofs.Ytbioajgmceodhaa
set_option linter.unusedVariables false
set_option linter.unusedSimpArgs false
open Go.RowKit
theorem Rdr.cells_ {w : World} {p : Nat} {T : TypeId} {P : Nat → Prop} {s : St} (h : Rdr w p T P s) : ∃ A n c, w.cell? ⟨p, 0, none⟩ = some (.slice A n c) ∧ n = s.1.length ∧ n ≤ c ∧ c ≤ maxLen ∧ w.cell? ⟨p, 1, none⟩ = some (.bool s.2) := by
  obtain ⟨A, n, c, h1, h2, h3, h4, h5, h6⟩ := h
  exact ⟨A, n, c, h1.cell 0, h5.1.1.symm, h2, h3, h1.cell 1⟩
theorem sp_to (s : Int) (f : N8) (wd : Int) (ph : Bool) (d : Sl) (l : List Int) (h : l.length = 8 ∨ l = []) : splice (hdL ⟨s, .zero, f, wd, ph⟩ d) 1 (l.map (Value.int .u8)) = hdL ⟨s, N8.of l, f, wd, ph⟩ d := by
  rcases h with h | h
  · match l, h with
    | [a, b, c, d, e, f, g, i], _ => rfl
  · rw [h]; rfl
theorem sp_from (s : Int) (t : N8) (wd : Int) (ph : Bool) (d : Sl) (l : List Int) (h : l.length = 8 ∨ l = []) : splice (hdL ⟨s, t, .zero, wd, ph⟩ d) 9 (l.map (Value.int .u8)) = hdL ⟨s, t, N8.of l, wd, ph⟩ d := by
  rcases h with h | h
  · match l, h with
    | [a, b, c, d, e, f, g, i], _ => rfl
  · rw [h]; rfl
def RPPost (bs : List Int) (w : World) (e : Ending) (w' : World) : Prop :=
  (match parseS bs with
  | none => e = .returned (.tuple #[hdV HN.zero Sl.nil, .int .i64 0, .int .i64 0, .bool false])
  | some x => ∃ d, e = .returned (.tuple #[hdV x.1 d, .int .i64 x.2.2.1, .int .i64 x.2.2.2, .bool true]) ∧ InD w' (fun b => w.heap.size ≤ b) d x.2.1 ∧ x.1.wf) ∧ Below w.heap.size w w'
theorem RPPost.no {bs : List Int} {w w' : World} (h : parseS bs = none) (hb : Below w.heap.size w w') : RPPost bs w (.returned (.tuple #[hdV HN.zero Sl.nil, .int .i64 0, .int .i64 0, .bool false])) w' := by
  unfold RPPost; rw [h]; exact ⟨rfl, hb⟩
theorem RPPost.yes {bs : List Int} {w w' : World} {m : HN} {tok : List Int} {a b : Int} {d : Sl} (h : parseS bs = some (m, tok, a, b)) (hd : InD w' (fun b => w.heap.size ≤ b) d tok) (hm : m.wf) (hb : Below w.heap.size w w') : RPPost bs w (.returned (.tuple #[hdV m d, .int .i64 a, .int .i64 b, .bool true])) w' := by
  unfold RPPost; rw [h]; exact ⟨⟨d, rfl, hd, hm⟩, hb⟩
theorem notbad (bs : List Int) (h : ¬ byteR (bs, false) / 64 % 2 = 0) : (takeN (bs, false) 1).2 = false := by
  unfold byteR takeR at h
  unfold takeN
  split
  · rfl
  · next g => rw [if_neg g] at h; exact absurd (by decide) h
theorem len12 (S : Nat → Prop) (w w' : World) (h : Kept S w w') : w.heap.size ≤ w'.heap.size := h.size

set_option maxRecDepth 100000 in
set_option maxHeartbeats 8000000 in
theorem rparse_no (A : Option Addr) (n c : Nat) (bs : List Int) (w : World) (hr : Rd w w.heap.size A n bs) (hn : n ≤ 1000000) (hnc : n ≤ c) (hcm : c ≤ maxLen) (hA : A = none → c = 0) (hx : byteR (bs, false) / 64 % 2 = 0) :
    Calls Try.prog 22 #[.slice A n c] w (RPPost bs w) := by
  have hlen := hr.1
  have hby := hr.2.1
  have hbx := byteR_bd (bs, false) hby
  have hB1 : Below w.heap.size w ((w.alloc (.cells (hdL HN.zero Sl.nil).toArray 28)).alloc (.cells ([.slice A n c, .bool false] : List Value).toArray 70)) := ((Below.refl _ _).alloc (Nat.le_refl _) _).alloc (by simp) _
  have hA1 : At ((w.alloc (.cells (hdL HN.zero Sl.nil).toArray 28)).alloc (.cells ([.slice A n c, .bool false] : List Value).toArray 70)) w.heap.size 28 (hdL HN.zero Sl.nil) := (At.new w _ _).alloc _
  have hP1 : At ((w.alloc (.cells (hdL HN.zero Sl.nil).toArray 28)).alloc (.cells ([.slice A n c, .bool false] : List Value).toArray 70)) (w.heap.size + 1) 70 [.slice A n c, .bool false] := At.new_ _ _ _ (by simp)
  have hrp : RdP w (fun b => b < w.heap.size) A n bs := ⟨hr, fun b off hn' e => by obtain ⟨b', off', e', hb', _⟩ := hr.2.2 hn'; rw [e] at e'; injection e' with e'; injection e' with e1 e2; omega⟩
  have hr1 : Rdr ((w.alloc (.cells (hdL HN.zero Sl.nil).toArray 28)).alloc (.cells ([.slice A n c, .bool false] : List Value).toArray 70)) (w.heap.size + 1) 70 (fun b => b < w.heap.size) (bs, false) :=
    ⟨A, n, c, hP1, hnc, hcm, hA, hrp.kept (Kept.of_below hB1 (fun _ => False)) (fun _ _ h => h), fun h => by cases h⟩
  obtain ⟨w1, hw1⟩ : ∃ y, (w.alloc (.cells (hdL HN.zero Sl.nil).toArray 28)).alloc (.cells ([.slice A n c, .bool false] : List Value).toArray 70) = y := ⟨_, rfl⟩
  rw [hw1] at hB1 hA1 hr1
  have hp1 : w.heap.size + 1 < w1.heap.size := by rw [← hw1]; simp
  have hPP : ∀ b, b < w.heap.size → b ≠ w.heap.size + 1 := fun b hb => by omega
  have hl1 : (takeN (bs, false) 1).1.length ≤ bs.length := takeN_le (bs, false) 1
  clear hP1 hrp hr

  have hpn : parseS bs = none := by unfold parseS; simp only; rw [if_pos hx]
  have HPN := Lib.hid hpn
  clear hpn
  obtain ⟨x, hxx⟩ : ∃ x, byteR (bs, false) = x := ⟨_, rfl⟩
  obtain ⟨s1, hs1⟩ : ∃ s, takeN (bs, false) 1 = s := ⟨_, rfl⟩
  rw [hxx] at hbx hx
  rw [hs1] at hl1
  have HX := Lib.hid hxx
  have HS1 := Lib.hid hs1
  clear hxx hs1
  have f1 : bits BinOp.and IntKind.u8 x 64 = 0 := by rw [b_and64 x hbx.1 hbx.2, hx]; rfl
  obtain ⟨bd, hbd⟩ : ∃ b, s1.2 = b := ⟨_, rfl⟩
  go_enter Try.func22, Try.ntmps22
  go_wp2_with fail
  change (fun y => Calls Try.prog 33 #[.pointer (some ⟨w.heap.size + 1, 0, none⟩)] y _) ((w.alloc (.cells (hdL HN.zero Sl.nil).toArray 28)).alloc (.cells ([.slice A n c, .bool false] : List Value).toArray 70))
  rw [hw1]
  clear hw1
  refine (rbyte_any (w.heap.size + 1) _ _ (bs, false) w1 hr1 hPP (by simp only; omega)).mono ?_
  rintro e w2 ⟨rfl, hr2, hk2⟩
  rw [HX.out]
  rw [HS1.out] at hr2
  have hA2 := hA1.kept hk2 (by omega)
  have hB2 := hk2.below hB1 (by omega) (fun j hj => by omega)
  have hs2 := hk2.size
  clear hk2 hA1 hB1 hr1
  have hA3 := hA2.alloc (.cells (hdL ⟨2, .zero, .zero, 1, false⟩ Sl.nil).toArray 28)
  have hG3 := At.new w2 28 (hdL ⟨2, .zero, .zero, 1, false⟩ Sl.nil)
  have hB3 := hB2.alloc (by omega) (.cells (hdL ⟨2, .zero, .zero, 1, false⟩ Sl.nil).toArray 28)
  have hr3 := hr2.kept ((Kept.refl (fun _ => False) w2).alloc (.cells (hdL ⟨2, .zero, .zero, 1, false⟩ Sl.nil).toArray 28)) (fun h => h) (fun _ _ h => h)
  obtain ⟨g8, hg8⟩ : ∃ g, w2.heap.size = g := ⟨_, rfl⟩
  obtain ⟨w3, hw3⟩ : ∃ y, w2.alloc (.cells (hdL ⟨2, .zero, .zero, 1, false⟩ Sl.nil).toArray 28) = y := ⟨_, rfl⟩
  rw [hw3] at hA3 hG3 hB3 hr3
  rw [hg8] at hG3
  have hg8p : w.heap.size + 1 < g8 := by omega
  have hz3 := hG3.lt
  clear hA2 hB2 hr2
  obtain ⟨_, _, _, _, _, _, _, rb3⟩ := hr3.cells_
  rw [hbd] at rb3
  cases bd
  all_goals
    go_wp2_with (first | ((with_reducible refine at_sth (x := .tmp 8) ?_); refine wpList_store_top w2 28 (hdL HN.zero Sl.nil) (hdL ⟨2, .zero, .zero, 1, false⟩ Sl.nil) (by rfl) _ (by rfl) hg8.symm (by rfl) (by rfl) hd_info (by rfl) ?_; rw [hw3]; clear hw3 hg8) | ((with_reducible refine at_sth (x := .tmp 2) ?_); refine st_hd _ _ (hdL HN.zero Sl.nil) (by rfl) (by rfl) hA3 (by rfl) (by rfl) (by rfl) ?_; intro w9 hA9 hk9) | fail)
    refine bodyPost_ret (results_cell_tmp3 2 3 4 5 28 (by rfl) _ 28 _ _ _ _ _ (by rfl) (by rfl) (by rfl) (by rfl) hA9 Try.underlying28 rfl hd_info) rfl ?_
    exact RPPost.no HPN.out (hk9.below hB3 (by omega) (fun j hj => by omega))
set_option maxRecDepth 100000 in
set_option maxHeartbeats 8000000 in
theorem rparse_short (A : Option Addr) (n c : Nat) (bs : List Int) (w : World) (hr : Rd w w.heap.size A n bs) (hn : n ≤ 1000000) (hnc : n ≤ c) (hcm : c ≤ maxLen) (hA : A = none → c = 0) (hx : ¬ byteR (bs, false) / 64 % 2 = 0) (hy : byteR (bs, false) / 128 = 0) :
    Calls Try.prog 22 #[.slice A n c] w (RPPost bs w) := by
  have hlen := hr.1
  have hby := hr.2.1
  have hbx := byteR_bd (bs, false) hby
  have hB1 : Below w.heap.size w ((w.alloc (.cells (hdL HN.zero Sl.nil).toArray 28)).alloc (.cells ([.slice A n c, .bool false] : List Value).toArray 70)) := ((Below.refl _ _).alloc (Nat.le_refl _) _).alloc (by simp) _
  have hA1 : At ((w.alloc (.cells (hdL HN.zero Sl.nil).toArray 28)).alloc (.cells ([.slice A n c, .bool false] : List Value).toArray 70)) w.heap.size 28 (hdL HN.zero Sl.nil) := (At.new w _ _).alloc _
  have hP1 : At ((w.alloc (.cells (hdL HN.zero Sl.nil).toArray 28)).alloc (.cells ([.slice A n c, .bool false] : List Value).toArray 70)) (w.heap.size + 1) 70 [.slice A n c, .bool false] := At.new_ _ _ _ (by simp)
  have hrp : RdP w (fun b => b < w.heap.size) A n bs := ⟨hr, fun b off hn' e => by obtain ⟨b', off', e', hb', _⟩ := hr.2.2 hn'; rw [e] at e'; injection e' with e'; injection e' with e1 e2; omega⟩
  have hr1 : Rdr ((w.alloc (.cells (hdL HN.zero Sl.nil).toArray 28)).alloc (.cells ([.slice A n c, .bool false] : List Value).toArray 70)) (w.heap.size + 1) 70 (fun b => b < w.heap.size) (bs, false) :=
    ⟨A, n, c, hP1, hnc, hcm, hA, hrp.kept (Kept.of_below hB1 (fun _ => False)) (fun _ _ h => h), fun h => by cases h⟩
  obtain ⟨w1, hw1⟩ : ∃ y, (w.alloc (.cells (hdL HN.zero Sl.nil).toArray 28)).alloc (.cells ([.slice A n c, .bool false] : List Value).toArray 70) = y := ⟨_, rfl⟩
  rw [hw1] at hB1 hA1 hr1
  have hp1 : w.heap.size + 1 < w1.heap.size := by rw [← hw1]; simp
  have hPP : ∀ b, b < w.heap.size → b ≠ w.heap.size + 1 := fun b hb => by omega
  have hl1 : (takeN (bs, false) 1).1.length ≤ bs.length := takeN_le (bs, false) 1
  clear hP1 hrp hr

  have hlk := link_short bs hx hy _ rfl
  have hnb := notbad bs hx
  have hb8 := n8_byt _ (takeR_byt (takeN (bs, false) 1) 8 (takeN_byt _ _ hby))
  unfold LinkS at hlk
  obtain ⟨x, hxx⟩ : ∃ x, byteR (bs, false) = x := ⟨_, rfl⟩
  obtain ⟨s1, hs1⟩ : ∃ s, takeN (bs, false) 1 = s := ⟨_, rfl⟩
  rw [hxx] at hbx hx hy
  rw [hs1] at hl1 hlk hb8 hnb
  have HX := Lib.hid hxx
  have HS1 := Lib.hid hs1
  clear hxx hs1
  have f1 : bits BinOp.and IntKind.u8 x 64 = 64 := by rw [b_and64 x hbx.1 hbx.2]; omega
  have f2 : bits BinOp.and IntKind.u8 x 128 = 0 := by rw [b_and128 x hbx.1 hbx.2, hy]; rfl
  have HLK := Lib.hid hlk
  have HB8 := Lib.hid hb8
  clear hlk hb8
  go_enter Try.func22, Try.ntmps22
  go_wp2_with fail
  change (fun y => Calls Try.prog 33 #[.pointer (some ⟨w.heap.size + 1, 0, none⟩)] y _) ((w.alloc (.cells (hdL HN.zero Sl.nil).toArray 28)).alloc (.cells ([.slice A n c, .bool false] : List Value).toArray 70))
  rw [hw1]
  clear hw1
  refine (rbyte_any (w.heap.size + 1) _ _ (bs, false) w1 hr1 hPP (by simp only; omega)).mono ?_
  rintro e w2 ⟨rfl, hr2, hk2⟩
  rw [HX.out]
  rw [HS1.out] at hr2
  have hA2 := hA1.kept hk2 (by omega)
  have hB2 := hk2.below hB1 (by omega) (fun j hj => by omega)
  have hs2 := hk2.size
  clear hk2 hA1 hB1 hr1
  have hA3 := hA2.alloc (.cells (hdL ⟨2, .zero, .zero, 1, false⟩ Sl.nil).toArray 28)
  have hG3 := At.new w2 28 (hdL ⟨2, .zero, .zero, 1, false⟩ Sl.nil)
  have hB3 := hB2.alloc (by omega) (.cells (hdL ⟨2, .zero, .zero, 1, false⟩ Sl.nil).toArray 28)
  have hr3 := hr2.kept ((Kept.refl (fun _ => False) w2).alloc (.cells (hdL ⟨2, .zero, .zero, 1, false⟩ Sl.nil).toArray 28)) (fun h => h) (fun _ _ h => h)
  obtain ⟨g8, hg8⟩ : ∃ g, w2.heap.size = g := ⟨_, rfl⟩
  obtain ⟨w3, hw3⟩ : ∃ y, w2.alloc (.cells (hdL ⟨2, .zero, .zero, 1, false⟩ Sl.nil).toArray 28) = y := ⟨_, rfl⟩
  rw [hw3] at hA3 hG3 hB3 hr3
  rw [hg8] at hG3
  have hg8p : w.heap.size + 1 < g8 := by omega
  have hz3 := hG3.lt
  clear hA2 hB2 hr2
  obtain ⟨_, _, _, _, _, _, _, rb3⟩ := hr3.cells_
  rw [hnb] at rb3
  go_wp2_with (first | ((with_reducible refine at_sth (x := .tmp 8) ?_); refine wpList_store_top w2 28 (hdL HN.zero Sl.nil) (hdL ⟨2, .zero, .zero, 1, false⟩ Sl.nil) (by rfl) _ (by rfl) hg8.symm (by rfl) (by rfl) hd_info (by rfl) ?_; rw [hw3]; clear hw3 hg8) | fail)
  have hAR := hA3
  have hBR := hB3
  obtain ⟨N, hN⟩ : ∃ N, (takeR s1 8).length = N := ⟨_, rfl⟩
  have hN8 : N ≤ 8 := by rcases takeR8 s1 with h | h; omega; rw [h] at hN; simp at hN; omega
  have HN_ := Lib.hid hN
  clear hN
  have hrD : Rdr w3.drew _ _ _ _ := hr3.drewN 1
  have hGD := hG3.drew
  have hAD := hAR.drew
  have hBD : Below w.heap.size w w3.drew := belowN hBR 1
  have hzD := hGD.lt
  refine wp_region_held_drew (S := (fun _ => True)) (by kernel_rfl) (trivial) (fun hHeld => ?_)
  refine tk_dst (i := 0) (dst := some 32) rfl rfl (by kernel_rfl) (by kernel_rfl) (by kernel_rfl) (fun _ _ _ h => h) (v := ?_) (Or.inl ⟨by rfl, ?_⟩) (by assumption) ?_
  rotate_left
  · intro w hSw; (try dsimp only at hSw); go_simp; first | done | (with_reducible rfl)
  simp only [Act.put, List.setIfInBounds_toArray, List.set_cons_zero, List.set_cons_succ]
  refine tk_dst (i := 1) (dst := some 33) rfl rfl (by kernel_rfl) (by kernel_rfl) (by kernel_rfl) (fun _ _ _ h => h) (v := ?_) (Or.inl ⟨by rfl, ?_⟩) (by assumption) ?_
  rotate_left
  · intro w hSw; (try dsimp only at hSw); go_simp; first | done | (with_reducible rfl)
  simp only [Act.put, List.setIfInBounds_toArray, List.set_cons_zero, List.set_cons_succ]
  refine tk_dst (i := 2) (dst := some 34) rfl rfl (by kernel_rfl) (by kernel_rfl) (by kernel_rfl) (fun _ _ _ h => h) (v := ?_) (Or.inl ⟨by rfl, ?_⟩) (by assumption) ?_
  rotate_left
  · intro w hSw; (try dsimp only at hSw); go_simp; first | done | (with_reducible rfl)
  simp only [Act.put, List.setIfInBounds_toArray, List.set_cons_zero, List.set_cons_succ]
  refine wpAnyH_ready (rs := [3]) (by kernel_rfl) (by simp) ?_
  refine AllReadyH.cons rfl (fun K hK => ?_) AllReadyH.nil
  go_simp
  go_wp2_with ((go_at_call 34; refine (rraw_any (w.heap.size + 1) _ _ s1 8 _ hrD hPP (by omega)).mono ?_; rintro e wR ⟨vR, rfl, hownR, hrR, hkR⟩; obtain ⟨aR, cR, rfl, gR1, gR2, gR3⟩ := hownR.open_n N HN_.out))
  refine hK.out _ _ (trivial) (fun hHeld => ?_)
  clear hK K
  have hGR := hGD.kept hkR (by omega)
  have hAR2 := hAD.kept hkR (by omega)
  have hBR2 := hkR.below hBD (by omega) (fun j hj => by omega)
  have hsR := hkR.size
  refine wpAnyH_ready (rs := [4]) (by kernel_rfl) (by simp) ?_
  refine AllReadyH.cons rfl (fun K hK => ?_) AllReadyH.nil
  refine step_copy_splice rfl (.tmp 33) (.tmp 35) 22 22 rfl 5 Try.underlying22 (by kernel_rfl) (some ⟨g8, 1, none⟩) aR 8 8 N cR rfl rfl g8 1 (hdL ⟨2, .zero, .zero, 1, false⟩ Sl.nil) 28 hGR ((takeR s1 8).map (Value.int .u8))
    (by rw [List.length_map, HN_.out]; exact (Nat.min_eq_left hN8).symm) (fun hp => ⟨rfl, gR3.cells (by rw [List.length_map, HN_.out] at hp; exact hp)⟩) (by rw [List.length_map, HN_.out, hdL_len]; omega) (oneCell_u8 _) g8 wR (Below.refl _ _) (Nat.le_refl _) ?_
  intro wS hbS hblS
  rw [sp_to _ _ _ _ _ _ (takeR8 s1)] at hbS
  refine hK.out _ _ trivial (fun hHeld => ?_)
  clear hK K
  refine wpAnyH_done (by kernel_rfl) ?_ _
  have hGS : At wS g8 28 (hdL ⟨2, N8.of (takeR s1 8), .zero, 1, false⟩ Sl.nil) := hbS.out
  have hAS := hAR2.below hblS (by omega)
  have hrS := hrR.kept (Kept.of_belowB hblS) (by omega) (fun b hb hs => by omega)
  have hBS := hBR2.trans (hblS.mono (by omega))
  have hzS := hGS.lt
  clear hrD hGD hAD hBD hzD hownR hrR hkR hGR hAR2 hBR2 hsR hbS hblS hHeld gR1 gR2 gR3 HN_ hN8
  have hl2 := takeN_le s1 8
  have hlens : (takeN s1 8).2 = false → bs.length = 9 + (takeN s1 8).1.length := by
    intro h
    have h1 := HS1.out
    rw [← h1] at h ⊢
    have h2 := take_false _ _ h
    unfold takeN at h h2 ⊢
    split at h2
    · next g =>
      simp only at g
      rw [if_pos g] at h ⊢
      split at h
      · next g2 =>
        rw [if_pos g2]
        simp only [List.length_drop] at g2 ⊢
        omega
      · cases h
    · cases h2
  obtain ⟨rA, rn, rc, r0, rl, rle, rcm, rbad⟩ := hrS.cells_
  obtain ⟨s2, hs2'⟩ : ∃ s, takeN s1 8 = s := ⟨_, rfl⟩
  have hlk := HLK.out
  clear HLK
  rw [hs2'] at hlk hrS hl2 rl rbad hlens
  rw [← rl] at hlk hl2 hlens
  obtain ⟨bd, hbd⟩ : ∃ b, s2.2 = b := ⟨_, rfl⟩
  rw [hbd] at hlk rbad hlens
  have hrcm := rcm
  unfold maxLen at hrcm
  obtain ⟨m, hm⟩ : ∃ m : HN, (⟨2, N8.of (takeR s1 8), .zero, 1, false⟩ : HN) = m := ⟨_, rfl⟩
  have hwf : m.wf := by
    rw [← hm]
    constructor
    · show (-9223372036854775808 : Int) ≤ 2; decide
    · show (2 : Int) ≤ 9223372036854775807; decide
    · show (-9223372036854775808 : Int) ≤ 1; decide
    · show (1 : Int) ≤ 9223372036854775807; decide
    · exact HB8.out
    · exact wf_zero8.fb
  rw [hm] at hlk hGS
  clear hm hbd hs2' HB8 hrS
  have hcmx := hcm
  unfold maxLen at hcmx
  cases bd with
  | true =>
    have HPN : Hid (parseS bs = none) := Lib.hid (by rw [hlk, if_neg (by simp)])
    clear hlk
    go_wp2_with (first | ((with_reducible refine at_sth (x := .tmp 2) ?_); refine st_hd _ _ (hdL HN.zero Sl.nil) (by rfl) (by rfl) hAS (by rfl) (by rfl) (by rfl) ?_; intro w9 hA9 hk9) | fail)
    refine bodyPost_ret (results_cell_tmp3 2 3 4 5 28 (by rfl) _ 28 _ _ _ _ _ (by rfl) (by rfl) (by rfl) (by rfl) hA9 Try.underlying28 rfl hd_info) rfl ?_
    exact RPPost.no HPN.out (hk9.below hBS (by omega) (fun j hj => by omega))
  | false =>
    by_cases h12 : rn < 12
    · have HPN : Hid (parseS bs = none) := Lib.hid (by rw [hlk, if_neg (by intro h; have := h.2.2.1; omega)])
      clear hlk
      go_wp2_with (first | ((with_reducible refine at_sth (x := .tmp 2) ?_); refine st_hd _ _ (hdL HN.zero Sl.nil) (by rfl) (by rfl) hAS (by rfl) (by rfl) (by rfl) ?_; intro w9 hA9 hk9) | fail)
      refine bodyPost_ret (results_cell_tmp3 2 3 4 5 28 (by rfl) _ 28 _ _ _ _ _ (by rfl) (by rfl) (by rfl) (by rfl) hA9 Try.underlying28 rfl hd_info) rfl ?_
      exact RPPost.no HPN.out (hk9.below hBS (by omega) (fun j hj => by omega))
    · have hle9 := hlens rfl
      have HPY : Hid (parseS bs = some (m, [], 9, (n : Int))) := Lib.hid (by
        rw [hlk, if_pos (by refine ⟨?_, ?_, by omega, by omega⟩ <;> first | trivial | rfl)]
        congr 1
        refine Prod.ext rfl (Prod.ext rfl (Prod.ext ?_ ?_)) <;> simp only <;> omega)
      clear hlk hlens
      go_wp2_with (first | ((with_reducible refine at_ldh ?_); refine ld_hd _ _ (by rfl) hGS (by rfl) ?_) | ((with_reducible refine at_sth (x := .tmp 2) ?_); refine st_hd _ _ (hdL m Sl.nil) (by rfl) (by rfl) hAS (by rfl) (by rfl) (by rfl) ?_; intro w9 hA9 hk9) | fail)
      refine bodyPost_ret (results_cell_tmp3 2 3 4 5 28 (by rfl) _ 28 _ _ _ _ _ (by rfl) (by rfl) (by rfl) (by rfl) hA9 Try.underlying28 rfl hd_info) rfl ?_
      exact RPPost.yes (d := Sl.nil) HPY.out (InD.nil_ _ _) hwf (hk9.below hBS (by omega) (fun j hj => by omega))
end Go.Proofs.Ytbioajgmceodhaa
