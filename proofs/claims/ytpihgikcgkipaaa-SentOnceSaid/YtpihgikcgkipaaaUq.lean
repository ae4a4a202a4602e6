/-
  sent: Take.
-/
import Derived.Test.YtpihgikcgkipaaaUp
namespace Go.Proofs.Ytpihgikcgkipaaa
set_option linter.unusedVariables false
set_option linter.unusedSimpArgs false
open Go.RowKit
set_option maxHeartbeats 1000000 in
set_option maxRecDepth 100000 in
theorem tsearch_any (cb : Array Value) (n k : Nat) (p : Nat → Bool) (w : World) (hsz : n < 1000000000)
    (hf : ∀ W, Below w.heap.size w W → ∀ i : Nat, i < n → Calls Try.prog 35 (#[.int .i64 i] ++ cb) W (SaysB (p i) W))
    (hk : k ≤ n) (hlo : ∀ t, t < k → p t = false) (hhi : ∀ t, k ≤ t → t < n → p t = true) :
    Calls Try.prog 34 #[.int .i64 n, .func (.func 35) #[] cb] w fun e w' => e = .returned (.int .i64 k) ∧ Below w.heap.size w w' := by
  have HF := Lib.hid hf
  have H0 := Lib.hid hlo
  have H1 := Lib.hid hhi
  clear hf hlo hhi
  go_enter Try.func34, Try.ntmps34
  go_wp2
  go_loopg [5, 6] n (fun kx s5 s6 wr => ∃ (lo hi : Nat), s5 = .int .i64 lo ∧ s6 = .int .i64 hi ∧ lo ≤ k ∧ k ≤ hi ∧ hi ≤ n ∧ hi - lo ≤ kx ∧ Below w.heap.size w wr)
  case atStart => exact ⟨0, n, rfl, rfl, Nat.zero_le _, hk, Nat.le_refl _, by omega, Below.refl _ _⟩
  case round =>
    obtain ⟨lo, hi, rfl, rfl, hlk, hkh, hin, hg, hB⟩ := hrel
    by_cases hlt : lo < hi
    · have hc := HF.out _ hB ((lo + hi) / 2) (by omega)
      rw [show (((lo + hi) / 2 : Nat) : Int) = ((lo : Int) + (hi : Int)) / 2 by omega] at hc
      by_cases hm : (lo + hi) / 2 < k
      · rw [H0.out _ hm] at hc
        go_wp2_with (go_at_call 35; refine hc.mono ?_; rintro e w' ⟨rfl, hB2⟩)
        go_roundg (hi - ((lo + hi) / 2 + 1))
        case measure => omega
        case rel => exact ⟨(lo + hi) / 2 + 1, hi, by rw [show ((lo : Int) + (hi : Int)) / 2 + 1 = (((lo + hi) / 2 + 1 : Nat) : Int) by omega], rfl, by omega, by omega, by omega, by omega, hB.trans (hB2.mono hB.size)⟩
      · rw [H1.out _ (by omega) (by omega)] at hc
        go_wp2_with (go_at_call 35; refine hc.mono ?_; rintro e w' ⟨rfl, hB2⟩)
        go_roundg ((lo + hi) / 2 - lo)
        case measure => omega
        case rel => exact ⟨lo, (lo + hi) / 2, rfl, by rw [show ((lo : Int) + (hi : Int)) / 2 = (((lo + hi) / 2 : Nat) : Int) by omega], by omega, by omega, by omega, by omega, hB.trans (hB2.mono hB.size)⟩
    · obtain rfl : lo = hi := by omega
      obtain rfl : lo = k := by omega
      go_wp2
      go_ret
      exact ⟨rfl, hB⟩
set_option maxRecDepth 100000 in
theorem cl_take (b1 b2 p base : Nat) (nx ak : Int) (hd : Bool) (v : Value) (l : PL) (i : Nat) (r : PK) (x : Int) (W : World) (hs : LV W base p nx ak hd v l) (hi : l[i]? = some r) (h1 : W.cell? ⟨b1, 0, none⟩ = some (.pointer (some ⟨p, 0, none⟩))) (h2 : W.cell? ⟨b2, 0, none⟩ = some (.int .u64 x)) :
    Calls Try.prog 35 (#[.int .i64 i] ++ #[.pointer (some ⟨b1, 0, none⟩), .pointer (some ⟨b2, 0, none⟩)]) W (SaysB (decide (x ≤ r.n)) W) := by
  have hlt := (List.getElem?_eq_some_iff.1 hi).1
  obtain ⟨g, c, rfl, hbg, hg, hpk⟩ := ownP_at hs.own hi
  have hcv : W.cell? ⟨p, 3, none⟩ = some (.slice (some ⟨g, 0, none⟩) l.length c) := hs.at_.cell 3
  have hiz : (i : Int) < ((l.length : Nat) : Int) := by omega
  have cn := hpk.cn
  clear hs hi hpk
  generalize l.length = n at *
  go_enter Try.func35, Try.ntmps35
  go_wp2
  go_quiet (fail)
  go_wp2
  go_ret
  exact ⟨by first | rfl | simp, belowN (Below.refl _ _) _⟩
abbrev Rise (l : PL) : Prop := l.Pairwise (fun a b => a.n < b.n)
theorem psplit (x : Int) : ∀ l : PL, Rise l → ∃ k, k ≤ l.length ∧ (∀ t r, t < k → l[t]? = some r → r.n < x) ∧ (∀ t r, k ≤ t → l[t]? = some r → x ≤ r.n)
  | [], _ => ⟨0, Nat.le_refl _, fun t r h => absurd h (by omega), fun t r _ h => by simp at h⟩
  | a :: t, h => by
    obtain ⟨h1, h2⟩ := List.pairwise_cons.1 h
    by_cases ha : a.n < x
    · obtain ⟨k, hk, hlo, hhi⟩ := psplit x t h2
      refine ⟨k + 1, by simp; omega, fun j r hj hr => ?_, fun j r hj hr => ?_⟩
      · cases j with
        | zero => simp at hr; subst hr; exact ha
        | succ j => exact hlo j r (by omega) (by simpa using hr)
      · cases j with
        | zero => omega
        | succ j => exact hhi j r (by omega) (by simpa using hr)
    · refine ⟨0, Nat.zero_le _, fun j r hj => absurd hj (by omega), fun j r _ hr => ?_⟩
      cases j with
      | zero => simp at hr; subst hr; omega
      | succ j =>
        have := h1 r (List.mem_of_getElem? (by simpa using hr : t[j]? = some r))
        omega
theorem take_end {base p : Nat} {nx ak : Int} {hd : Bool} {l : PL} {w X w5 w9 : World} {g k zb : Nat} {v v5 : Value} {L : List Value} (hE : LV X base p nx ak hd v l) (hB : Below w.heap.size w X) (ho : OwnP w5 base v5 (l.take k ++ l.drop (k + 1))) (hk : Kept (· = g) X w5) (hv : v5.ownBlock = some g) (hp : At w5 p 61 [.int .u64 nx, .int .u64 ak, .bool hd, v]) (hvg : v.ownBlock = some g)
    (hZ : At w9 zb 31 L) (hK9 : Kept (· = zb) (w5.setCell ⟨p, 3, none⟩ v5) w9) (hp0 : p < w.heap.size) (hg0 : g < w.heap.size) (hzb : zb = w.heap.size + 2) (hZ5 : ∃ L5, At (w5.setCell ⟨p, 3, none⟩ v5) zb 31 L5) :
    LV w9 base p nx ak hd v5 (l.take k ++ l.drop (k + 1)) ∧ Kept (fun j => j = p ∨ v.ownBlock = some j) w w9 := by
  have hk3 : Kept (· = p) w5 (w5.setCell ⟨p, 3, none⟩ v5) := (Kept.refl _ _).setAt _ _
  have hgp : g ≠ p := fun e => hE.ne (by rw [hvg, e])
  have hn1 : NoFr X (· = g) := NoFr.of_type fun j hj => by
    subst hj
    obtain ⟨cur, hA⟩ := ownG_type hE.own j hvg
    exact ⟨_, _, hA, by decide⟩
  have hn2 : NoFr w5 (· = p) := NoFr.of_type fun j hj => by subst hj; exact ⟨_, _, hp, by decide⟩
  have hn3 : NoFr (w5.setCell ⟨p, 3, none⟩ v5) (· = zb) := NoFr.of_type fun j hj => by
    subst hj
    obtain ⟨L5, h5⟩ := hZ5
    exact ⟨_, _, h5, by decide⟩
  refine ⟨⟨(hp.set 3 v5).kept hK9 (by omega), ownG_kept (ownG_kept ho hk3 (fun j hj e => hgp (by rw [hv] at hj; injection hj with hj; omega))) hK9 (fun j hj e => by rw [hv] at hj; injection hj with hj; omega), fun r hr => ?_, hE.bp⟩, ?_⟩
  · have hrl : r ∈ l := by
      rcases List.mem_append.1 hr with h | h
      · exact List.mem_of_mem_take h
      · exact List.mem_of_mem_drop h
    exact (((hE.fr r hrl).kept hk hn1).kept hk3 hn2).kept hK9 hn3
  · have h1 : Kept (fun j => j = p ∨ v.ownBlock = some j) w X := Kept.of_below hB _
    have h2 := h1.trans' hk (fun j hj => .inl (.inr (by subst hj; exact hvg)))
    have h3 := h2.trans' hk3 (fun j hj => .inl (.inl hj))
    exact h3.trans' hK9 (fun j hj => .inr (by omega))
def TakePost (base p : Nat) (nx ak : Int) (hd : Bool) (v : Value) (l : PL) (x : Int) (w : World) (e : Ending) (w' : World) : Prop :=
  (∃ i r, l[i]? = some r ∧ r.n = x ∧ e = .returned (.tuple #[.agg (pkC r).toArray, .bool true]) ∧ ∃ v', LV w' base p nx ak hd v' (l.take i ++ l.drop (i + 1)) ∧ Kept (fun j => j = p ∨ v.ownBlock = some j) w w' ∧ v'.ownBlock = v.ownBlock) ∨
  ((∀ r ∈ l, r.n ≠ x) ∧ e = .returned (.tuple #[.agg (pkC PK.zero).toArray, .bool false]) ∧ Below w.heap.size w w')
def atN (l : PL) (x : Int) (t : Nat) : Bool := match l[t]? with | some r => decide (x ≤ r.n) | none => true
section
variable {base p : Nat} {nx ak : Int} {hd : Bool} {v : Value} {l : PL} {w : World}
set_option maxRecDepth 100000 in
set_option maxHeartbeats 4000000 in
theorem stake_any (hs : LV w base p nx ak hd v l) (x : Int) (hn : l.length ≤ 64) (hr : Rise l) :
    Calls Try.prog 21 #[.pointer (some ⟨p, 0, none⟩), .int .u64 x] w (TakePost base p nx ak hd v l x w) := by
  obtain ⟨k, hk, hlo, hhi⟩ := psplit x l hr
  obtain ⟨w3, hw3⟩ : ∃ w3, w3 = ((w.alloc (.cells #[.pointer (some ⟨p, 0, none⟩)] 22)).alloc (.cells #[.int .u64 x] 26)).alloc (.cells #[.int .u64 0, .int .i64 0, .int .i64 0, .bool false, .slice none 0 0] 31) := ⟨_, rfl⟩
  have hb3 : Below w.heap.size w w3 := by rw [hw3]; exact (((Below.refl _ w).alloc (Nat.le_refl _) _).alloc (by simp) _).alloc (by simp; omega) _
  have hsz3 : w3.heap.size = w.heap.size + 3 := by rw [hw3]; simp
  have a1 : At w3 w.heap.size 22 [.pointer (some ⟨p, 0, none⟩)] := by rw [hw3]; exact ((At.new w _ _).alloc _).alloc _
  have a2 : At w3 (w.heap.size + 1) 26 [.int .u64 x] := by rw [hw3]; exact (At.new_ _ _ _ (by simp)).alloc _
  have a3 : At w3 (w.heap.size + 2) 31 [.int .u64 0, .int .i64 0, .int .i64 0, .bool false, .slice none 0 0] := by rw [hw3]; exact At.new_ _ _ _ (by simp)
  have hs3 := hs.below hb3
  have HSE := Lib.hid (tsearch_any #[.pointer (some ⟨w.heap.size, 0, none⟩), .pointer (some ⟨w.heap.size + 1, 0, none⟩)] l.length k (atN l x) w3 (by omega)
    (fun W hW i hi => by
      have hr : l[i]? = some l[i] := List.getElem?_eq_getElem hi
      have hP : atN l x i = decide (x ≤ l[i].n) := by unfold atN; rw [hr]
      rw [hP]
      exact cl_take w.heap.size (w.heap.size + 1) p base nx ak hd v l i l[i] x W (hs3.below hW) hr ((a1.below hW a1.lt).cell 0) ((a2.below hW a2.lt).cell 0))
    hk (fun t ht => by
      have hr : l[t]? = some l[t] := List.getElem?_eq_getElem (by omega)
      unfold atN
      rw [hr]
      have := hlo t _ ht hr
      exact decide_eq_false (by omega)) (fun t h1 h2 => by
      have hr : l[t]? = some l[t] := List.getElem?_eq_getElem h2
      unfold atN
      rw [hr]
      exact decide_eq_true (hhi t _ h1 hr)))
  have HLO := Lib.hid hlo
  have HHI := Lib.hid hhi
  have HS3 := Lib.hid hs3
  have HS := Lib.hid hs
  have H3 := Lib.hid (And.intro hb3 (And.intro hsz3 (And.intro a1 (And.intro a2 a3))))
  have HW3 := Lib.hid hw3
  obtain ⟨A, c, rfl, hnc, hcm⟩ := ownG_shape hs.own
  have hplt := hs.at_.lt
  have l3 : w3.cell? ⟨p, 3, none⟩ = some (.slice A l.length c) := hs3.at_.cell 3
  have b1 := a1.cell 0
  have b2 := a2.cell 0
  have hp0 : p < w.heap.size := hplt
  clear hs hs3 hlo hhi hb3 hsz3 a1 a2 a3
  have l3x : (((w.alloc (.cells #[.pointer (some ⟨p, 0, none⟩)] 22)).alloc (.cells #[.int .u64 x] 26)).alloc (.cells #[.int .u64 0, .int .i64 0, .int .i64 0, .bool false, .slice none 0 0] 31)).cell? ⟨p, 3, none⟩ = some (.slice A l.length c) := by rw [← HW3.out]; exact l3
  clear hw3 b1 b2 l3
  obtain ⟨n, hln⟩ : ∃ n, l.length = n := ⟨_, rfl⟩
  rw [hln] at l3x HSE hk hnc hn
  have HN := Lib.hid hln
  clear hln
  go_enter Try.func21, Try.ntmps21
  go_wp2_with fail
  rw [← HW3.out]
  refine HSE.out.mono ?_
  rintro e w4 ⟨rfl, hb4⟩
  have hs4 := HS3.out.below hb4
  have c1 := (H3.out.2.2.1.below hb4 H3.out.2.2.1.lt)
  have c2 := (H3.out.2.2.2.1.below hb4 H3.out.2.2.2.1.lt)
  have c3 := (H3.out.2.2.2.2.below hb4 H3.out.2.2.2.2.lt)
  have hB4 : Below w.heap.size w w4 := H3.out.1.trans (hb4.mono (by have := H3.out.2.1; omega))
  have b1 := c1.cell 0
  have b2 := c2.cell 0
  have hl3 : w4.cell? ⟨p, 3, none⟩ = some (.slice A n c) := by have := hs4.at_.cell 3; rw [HN.out] at this; exact this
  have HS4 := Lib.hid hs4
  have HB4 := Lib.hid hB4
  have HC3 := Lib.hid c3
  have HC1 := Lib.hid c1
  clear hs4 c1 c2 c3 hB4 hb4 l3x HSE
  have notfound : (∀ r ∈ l, r.n ≠ x) → ∀ w9, Below w.heap.size w w9 → TakePost base p nx ak hd (.slice A l.length c) l x w (.returned (.tuple #[.agg (pkC PK.zero).toArray, .bool false])) w9 := fun h w9 hb => .inr ⟨h, rfl, hb⟩
  have HNF := Lib.hid notfound
  clear notfound
  have HRI := Lib.hid hr
  clear hr
  rcases Nat.eq_or_lt_of_le hk with hkn | hkn
  · obtain rfl : k = n := hkn
    have hno : ∀ r ∈ l, r.n ≠ x := fun r hr => by
      obtain ⟨j, hj⟩ := List.mem_iff_getElem?.1 hr
      have := HLO.out j r (by have := (List.getElem?_eq_some_iff.1 hj).1; have := HN.out; omega) hj
      omega
    have HNO := Lib.hid hno
    clear hno hk
    go_wp2
    go_quiet (fail)
    generalize hW : World.drewN _ _ = W
    have HW : Hid (At W (w.heap.size + 2) 31 [.int .u64 0, .int .i64 0, .int .i64 0, .bool false, .slice none 0 0] ∧ Below w.heap.size w W) := Lib.hid (by subst hW; exact ⟨HC3.out.drewN _, belowN HB4.out _⟩)
    clear hW
    go_wp2_with (first | ((with_reducible refine at_stp ?_); refine st_pat (w.heap.size + 2) _ PK.zero (by rfl) (by rfl) HW.out.1 (by rfl) ?_; intro w9 hZ9 hK9) | fail)
    refine bodyPost_ret (results_cell_tmp 4 5 31 (by rfl) _ 31 _ _ _ (by rfl) (by rfl) hZ9 Try.underlying31 rfl pk_size) rfl ?_
    exact HNF.out HNO.out _ (hK9.below HW.out.2 HW.out.2.size (fun j hj => by omega))
  · obtain ⟨r, hr2⟩ : ∃ r, l[k]? = some r := ⟨_, List.getElem?_eq_getElem (by rw [HN.out]; exact hkn)⟩
    obtain ⟨g, c9, hgv, hbg, hglt, hpk⟩ := ownP_at HS4.out.own hr2
    injection hgv with e1 e2 e3
    subst e1; subst e3
    clear e2
    have cn := hpk.cn
    have HPK := Lib.hid hpk
    have HR := Lib.hid hr2
    have hkz : (k : Int) < (n : Int) := by omega
    have hke := Lib.hid (show ((k : Int) == (n : Int)) = false by simp; omega)
    clear hpk hr2
    by_cases hx : r.n = x
    · have hxe := Lib.hid (show (r.n != x) = false by simp [hx])
      have HX := Lib.hid hx
      clear hx
      go_wp2
      have hke2 := hke.out
      have hxe2 := hxe.out
      go_quiet (fail)
      generalize hW : World.drewN _ _ = W
      have hd : Below w4.heap.size w4 W := by subst hW; exact belowN (Below.refl _ _) _
      have hsW := HS4.out.below hd
      have l3w : W.cell? ⟨p, 3, none⟩ = some (.slice (some ⟨g, 0, none⟩) n c) := by have := hsW.at_.cell 3; rw [HN.out] at this; exact this
      have b1w := (hd.cell (p := ⟨w.heap.size, 0, none⟩) HC1.out.lt).trans b1
      have hpw := HPK.out.below hglt hd
      have c3w := HC3.out.below hd HC3.out.lt
      have hax : Below W.heap.size W (W.alloc (.cells (pkC r).toArray 31)) := (Below.refl _ _).alloc (Nat.le_refl _) _
      have hsX := hsW.below hax
      have hX := At.new W 31 (pkC r)
      have c3x := c3w.below hax c3w.lt
      have hb1X := (hax.cell (p := ⟨w.heap.size, 0, none⟩) (Nat.lt_of_lt_of_le HC1.out.lt hd.size)).trans b1w
      have hBX := HB4.out.trans ((hd.trans (hax.mono hd.size)).mono (by have := HB4.out.size; omega))
      have l3X := (hax.cell (p := ⟨p, 3, none⟩) hsW.at_.lt).trans l3w
      have HPW := Lib.hid hpw
      have HE := Lib.hid (And.intro hsX (And.intro hX (And.intro c3x hBX)))
      have hpX := hsX.at_.lt
      have HPX := Lib.hid hpX
      have HGZ := Lib.hid hd.size
      have HB1X := Lib.hid hb1X
      have HL3X := Lib.hid l3X
      clear hW hd hsW hpw c3w hax hsX hX c3x hBX b1 b2 hl3 cn hke2 hxe2 hb1X l3X hpX
      go_wp2_with (first | ((with_reducible refine at_ldp ?_); refine ld_pm g (k * 5) r (by rfl) HPW.out ?_) | ((with_reducible refine at_stp ?_); refine st_ptop _ _ r (by rfl) _ (by rfl) (by simp) (by rfl) (by rfl) ?_) | fail)
      clear l3w b1w
      have hb1X := HB1X.out
      have l3X := HL3X.out
      have hpX := HPX.out
      obtain ⟨X, hXe⟩ : ∃ X, W.alloc (.cells (pkC r).toArray 31) = X := ⟨_, rfl⟩
      obtain ⟨gx, hgx⟩ : ∃ gx, W.heap.size = gx := ⟨_, rfl⟩
      rw [hgx] at HGZ
      rw [hXe] at HE hb1X l3X hpX ⊢
      rw [hgx] at HE ⊢
      have HGX := Lib.hid (show w.heap.size < gx by have := HC1.out.lt; have := HGZ.out; omega)
      clear hXe hgx HPX HB1X HL3X
      have hdX : Below X.heap.size X X.drew := ⟨rfl, rfl, rfl, Nat.le_refl _, fun _ _ => rfl⟩
      have hgp : g ≠ p := fun e => HE.out.1.ne (by rw [← e]; rfl)
      have hgw : ∀ W9, Kept (fun j => (Value.slice (some ⟨g, 0, none⟩) l.length c).ownBlock = some j) X.drew W9 → Kept (· = g) X W9 := fun W9 hk => (Kept.from_drew hk).mono (fun j hj => .inl (Option.some.inj hj).symm)
      have hb1lt : w.heap.size < X.heap.size := HE.out.2.2.1.lt |> fun h => by omega
      have hgb : ¬ w.heap.size = g := fun e => by
        have h1 := HC1.out
        obtain ⟨cur, hcur⟩ := ownG_type HS4.out.own g rfl
        rw [← e] at hcur
        exact absurd (hcur.type_eq h1) (by decide)
      have hdel := (pdel_any base (.slice (some ⟨g, 0, none⟩) l.length c) l k X.drew (HE.out.1.below hdX).own (by rw [HN.out]; exact hkn) (by rw [HN.out]; omega) (Nat.le_trans HE.out.1.bp (Nat.le_of_lt hpX))).mono (R' := fun e W9 => ∃ A5 n5 c5, e = .returned (.slice A5 n5 c5) ∧ Hid (OwnP W9 base (.slice A5 n5 c5) (l.take k ++ l.drop (k + 1)) ∧ Kept (· = g) X W9 ∧ (Value.slice A5 n5 c5).ownBlock = some g ∧ At W9 p 61 [.int .u64 nx, .int .u64 ak, .bool hd, .slice (some ⟨g, 0, none⟩) l.length c]) ∧ W9.cell? ⟨p, 3, none⟩ = some (.slice (some ⟨g, 0, none⟩) l.length c) ∧ W9.frozen? ⟨p, 3, none⟩ = false ∧ W9.cell? ⟨w.heap.size, 0, none⟩ = some (.pointer (some ⟨p, 0, none⟩))) (fun e W9 h => by
        obtain ⟨v5, rfl, hO5, hK5, hv5⟩ := h
        have hk9 := hgw W9 hK5
        have hp9 := HE.out.1.at_.kept hk9 (fun e => hgp e.symm)
        obtain ⟨A5, c5, rfl, _, _⟩ := ownG_shape hO5
        exact ⟨A5, _, c5, rfl, Lib.hid ⟨hO5, hk9, hv5, hp9⟩, hp9.cell 3, hp9.frozen 3, (hk9.cell (p := ⟨w.heap.size, 0, none⟩) hb1lt hgb).trans hb1X⟩)
      rw [HN.out] at hdel
      have HDEL := Lib.hid hdel
      have hgp2 := Lib.hid hgp
      clear hdel hgw hgb hgp hdX
      go_wp2_with fail
      simp only [Act.put]
      have mixed : Try.prog.follows .mixedOrders = true := by kernel_rfl
      have hwk : IntKind.i64.wrap ((k : Int) + 1) = (k : Int) + 1 := by rw [IntKind.wrap_i64]; omega
      go_region_law_o (go_simp; go_at_call 36; (with_reducible refine HDEL.out.mono ?_); rintro e w5 ⟨A5, n5, c5, rfl, H5, l5, f5, b5⟩)
      all_goals have hg0 : g < w.heap.size := (ownG_lt HS.out.own g rfl).2
      all_goals have q1 := H5.out.2.1
      all_goals have hX5 := (HE.out.2.1.kept q1 (show ¬ gx = g by have := HGX.out; omega)).set_other (q := ⟨p, 3, none⟩) (show p ≠ gx by have := HGX.out; omega) (.slice A5 n5 c5)
      all_goals have hZ5 := (HE.out.2.2.1.kept q1 (show ¬ w.heap.size + 2 = g by omega)).set_other (q := ⟨p, 3, none⟩) (show p ≠ w.heap.size + 2 by omega) (.slice A5 n5 c5)
      all_goals have HX5 := Lib.hid hX5
      all_goals have HZ5 := Lib.hid hZ5
      all_goals have HG0 := Lib.hid hg0
      all_goals clear hX5 hZ5 q1 hg0
      all_goals go_wp2_with (first | ((with_reducible refine at_ldp ?_); refine ld_pm _ 0 r (by rfl) HX5.out.pk ?_) | ((with_reducible refine at_stp ?_); refine st_pat (w.heap.size + 2) _ r (by rfl) (by rfl) HZ5.out (by rfl) ?_; intro w9 hZ9 hK9) | fail)
      all_goals refine bodyPost_ret (results_cell_tmp 4 5 31 (by rfl) _ 31 _ _ _ (by rfl) (by rfl) hZ9 Try.underlying31 rfl pk_size) rfl ?_
      all_goals exact .inl ⟨k, r, HR.out, HX.out, rfl, _, (take_end HE.out.1 HE.out.2.2.2 H5.out.1 H5.out.2.1 H5.out.2.2.1 (by rw [HN.out]; exact H5.out.2.2.2) rfl hZ9 hK9 hp0 HG0.out rfl ⟨_, HZ5.out⟩).1, (take_end HE.out.1 HE.out.2.2.2 H5.out.1 H5.out.2.1 H5.out.2.2.1 (by rw [HN.out]; exact H5.out.2.2.2) rfl hZ9 hK9 hp0 HG0.out rfl ⟨_, HZ5.out⟩).2, H5.out.2.2.1⟩
    · have hxe := Lib.hid (show (r.n != x) = true by simp [hx])
      have hno : ∀ r ∈ l, r.n ≠ x := fun r9 hr9 => by
        obtain ⟨j, hj⟩ := List.mem_iff_getElem?.1 hr9
        rcases Nat.lt_trichotomy j k with h | h | h
        · have := HLO.out j r9 h hj; omega
        · subst h
          rw [HR.out] at hj
          injection hj with hj
          subst hj
          exact hx
        · have h1 := List.pairwise_iff_getElem.1 HRI.out k j (List.getElem?_eq_some_iff.1 HR.out).1 (List.getElem?_eq_some_iff.1 hj).1 h
          rw [(List.getElem?_eq_some_iff.1 HR.out).2, (List.getElem?_eq_some_iff.1 hj).2] at h1
          have h2 := HHI.out k r (Nat.le_refl _) HR.out
          omega
      have HNO := Lib.hid hno
      clear hno hx
      go_wp2
      have hke2 := hke.out
      have hxe2 := hxe.out
      go_quiet (fail)
      generalize hW : World.drewN _ _ = W
      have HW : Hid (At W (w.heap.size + 2) 31 [.int .u64 0, .int .i64 0, .int .i64 0, .bool false, .slice none 0 0] ∧ Below w.heap.size w W) := Lib.hid (by subst hW; exact ⟨HC3.out.drewN _, belowN HB4.out _⟩)
      clear hW
      go_wp2_with (first | ((with_reducible refine at_stp ?_); refine st_pat (w.heap.size + 2) _ PK.zero (by rfl) (by rfl) HW.out.1 (by rfl) ?_; intro w9 hZ9 hK9) | fail)
      refine bodyPost_ret (results_cell_tmp 4 5 31 (by rfl) _ 31 _ _ _ (by rfl) (by rfl) hZ9 Try.underlying31 rfl pk_size) rfl ?_
      exact HNF.out HNO.out _ (hK9.below HW.out.2 HW.out.2.size (fun j hj => by omega))
end
end Go.Proofs.Ytpihgikcgkipaaa
