/-
  slices.Replace on Ranges of the call's own, whole; slices.Delete from the front.
-/
import Derived.Test.YtahalbmcijbbmaaQc
import Derived.Test.YtahalbmcijbbmaaQa
import Derived.WalkKit
import Derived.Deep.LoopGhost
import Derived.Shelf.Abstract
import Derived.BigQuiet
namespace Go.Proofs.Ytahalbmcijbbmaa
section
set_option linter.unusedVariables false
set_option linter.unusedSimpArgs false
open Go.RowKit
theorem spost_of_f {base : Nat} {v : Value} {n : Nat} {X : List Value} {l' : RL} {w : World} {e : Ending} {w' : World} (h : FPost base v n X w e w') (hn : n = l'.length) (hX : X = rlC l') (wd : WdL l') : SPost base v l' w e w' := by
  obtain ⟨v', he, h1, h2, h3⟩ := h
  subst hn; subst hX
  exact ⟨v', he, ⟨h1, wd⟩, h2, h3⟩
set_option maxHeartbeats 1000000 in
set_option maxRecDepth 100000 in
theorem lrep_i (base basev : Nat) (v vv : Value) (l rs : RL) (i : Nat) (w : World) (hl : OwnL w base v l) (hr : OwnL w basev vv rs) (hne : ∀ k, v.ownBlock = some k → vv.ownBlock ≠ some k) (hi : i ≤ l.length) (hN : l.length + rs.length ≤ 2000000) (hb : base ≤ w.heap.size) :
    Calls Try.prog 66 #[v, .int .i64 i, .int .i64 i, vv] w (SPost base v (l.take i ++ rs ++ l.drop i) w) := by
  have hI := linsert_any base basev v vv l rs i w hl hr hne hi hN hb
  have hI' := Lib.hid hI
  clear hI
  obtain ⟨A, c, rfl, hnc, hcm⟩ := hl.shape
  obtain ⟨A2, c2, rfl, hnc2, hcm2⟩ := hr.shape
  have hcz : (i : Int) ≤ (c : Int) := by omega
  have hcm' : c ≤ 9223372036854775807 := by unfold maxLen at hcm; omega
  have ho2 : A = none → c = i := fun hA => by
    obtain ⟨A', c', e, _, _, _, h⟩ := ownF_open hl.own
    injection e with e1 e2 e3
    subst e1; subst e3
    rcases h with ⟨_, h1, h2, _⟩ | ⟨g, cur, h1, _⟩
    · omega
    · rw [h1] at hA; cases hA
  clear hl hr hne
  generalize l.length = n at *
  generalize rs.length = m at *
  generalize hX : l.take i ++ rs ++ l.drop i = X at *
  clear hX
  by_cases hci : c = i
  · clear ho2
    subst hci
    go_enter Try.func66, Try.ntmps66
    go_wp2_with (go_at_call 71; refine hI'.out.mono ?_; rintro e w' ⟨v', rfl, h1, h2, h3⟩)
    go_ret
    exact ⟨_, rfl, h1, h2, h3⟩
  · cases A with
    | none => exact absurd (ho2 rfl) hci
    | some ad =>
      clear ho2
      go_enter Try.func66, Try.ntmps66
      go_wp2_with (go_at_call 71; refine hI'.out.mono ?_; rintro e w' ⟨v', rfl, h1, h2, h3⟩)
      go_ret
      exact ⟨_, rfl, h1, h2, h3⟩
theorem lreplace_any (base basev : Nat) (v vv : Value) (l rs : RL) (i j : Nat) (w : World) (hl : OwnL w base v l) (hr : OwnL w basev vv rs) (hne : ∀ k, v.ownBlock = some k → vv.ownBlock ≠ some k) (hij : i ≤ j) (hj : j ≤ l.length) (hN : l.length + rs.length ≤ 2000000) (hb : base ≤ w.heap.size) :
    Calls Try.prog 66 #[v, .int .i64 i, .int .i64 j, vv] w (SPost base v (l.take i ++ rs ++ l.drop j) w) := by
  rcases Nat.eq_or_lt_of_le hij with rfl | hlt
  · exact lrep_i base basev v vv l rs i w hl hr hne hj hN hb
  have wd := (hl.wd.take i).app hr.wd |>.app (hl.wd.drop j)
  have hXE : rlC (l.take i ++ rs ++ l.drop j) = (rlC l).take (i * 2) ++ (rlC rs ++ (rlC l).drop (j * 2)) := by rw [List.append_assoc, rlC_app, rlC_app, rlC_take, rlC_drop]
  have hLE : (l.take i ++ rs ++ l.drop j).length = i + rs.length + (l.length - j) := by simp; omega
  obtain ⟨A, c, rfl, hnc, hcm, hx, ho⟩ := ownF_open hl.own
  obtain ⟨Av, cv, rfl, hnv, hcmv, hxv, hov⟩ := ownF_open hr.own
  rcases ho with ⟨_, h, _⟩ | ⟨g, cur, rfl, hbg, hg, hA, hcl, hct⟩
  · omega
  have hys : 0 < rs.length → ∃ gv curv, Av = some ⟨gv, 0, none⟩ ∧ gv ≠ g ∧ gv < w.heap.size ∧ At w gv 99 curv ∧ 0 < curv.length ∧ ∀ k u, (rlC rs)[k]? = some u → w.cell? ((⟨gv, 0, none⟩ : Addr).add k) = some u := fun h0 => by
    obtain ⟨ad, e, hc⟩ := src_own hr Av cv rfl h0
    rcases hov with ⟨_, h, _⟩ | ⟨gv, curv, rfl, _, h1, h2, h3, h4⟩
    · omega
    · injection e with e
      subst e
      exact ⟨gv, curv, rfl, fun e => hne g rfl (by rw [e]; rfl), h1, h2, by omega, hc⟩
  rcases Nat.eq_or_lt_of_le hj with hjn | hjn
  · subst hjn
    refine (lrep_b base l.length rs.length c cv g i Av cur (rlC l) (rlC rs) w hbg hg hA hcl hct hx (rlC_one l) (rlC_len rs) (rlC_one rs) hys hb hnc hcm hnv hcmv hN hlt).mono ?_
    intro e w' h
    refine spost_of_f h (by rw [hLE]; omega) ?_ wd
    rw [hXE, List.drop_eq_nil_of_le (by omega), List.append_nil]
  · have conv := fun (h : Calls Try.prog 66 #[.slice (some ⟨g, 0, none⟩) l.length c, .int .i64 i, .int .i64 j, .slice Av rs.length cv] w (FPost base (.slice (some ⟨g, 0, none⟩) l.length c) (i + rs.length + (l.length - j)) ((rlC l).take (i * 2) ++ (rlC rs ++ (rlC l).drop (j * 2))) w)) =>
      h.mono (fun e w' h => spost_of_f h hLE.symm hXE.symm wd)
    apply conv
    by_cases hroom : c < i + rs.length + (l.length - j)
    · exact lrep_c base l.length rs.length c cv g i j Av cur (rlC l) (rlC rs) w hbg hg hA hcl hct hx (rlC_one l) (rlC_len rs) (rlC_one rs) hys hb hnc hcm hnv hcmv hN hlt hjn _ _ rfl rfl hroom
    · by_cases hqj : i + rs.length ≤ j
      · exact lrep_d base l.length rs.length c cv g i j Av cur (rlC l) (rlC rs) w hbg hg hA hcl hct hx (rlC_one l) (rlC_len rs) (rlC_one rs) hys hb hnc hcm hnv hcmv hN hlt hjn _ _ rfl rfl hqj
      · exact lrep_e base l.length rs.length c cv g i j Av cur (rlC l) (rlC rs) w hbg hg hA hcl hct hx (rlC_one l) (rlC_len rs) (rlC_one rs) hys hb hnc hcm hnv hcmv hN hlt hjn _ _ rfl rfl (by omega) (by omega)
set_option maxHeartbeats 1000000 in
set_option maxRecDepth 100000 in
theorem ldel_any (base : Nat) (v : Value) (l : RL) (k : Nat) (w : World) (hl : OwnL w base v l) (hk0 : 0 < k) (hkn : k < l.length) (hN : l.length ≤ 2000000) (hb : base ≤ w.heap.size) :
    Calls Try.prog 67 #[v, .int .i64 0, .int .i64 k] w (SPost base v (l.drop k) w) := by
  obtain ⟨A, c, rfl, hnc, hcm, hx, ho⟩ := ownF_open hl.own
  rcases ho with ⟨_, h, _⟩ | ⟨g, cur, rfl, hbg, hg, hA, hcl, hct⟩
  · omega
  have HW := Lib.hid (hl.wd.drop k)
  have HL := Lib.hid (show (l.drop k).length = l.length - k from List.length_drop)
  have HX := Lib.hid (rlC_drop l k)
  have hown : OwnF w base (.slice (some ⟨g, 0, none⟩) 0 c) 0 [] := ownF_cut hl.own (i := 0) (by omega)
  have hsrc : ∀ j u, ((rlC l).drop (k * 2))[j]? = some u → w.cell? ((⟨g, k * 2, none⟩ : Addr).add j) = some u := fun j u hj => by
    rw [Addr.add_lit, hA.cell]
    rw [List.getElem?_drop, ← hct, List.getElem?_take] at hj
    split at hj
    · exact hj
    · cases hj
  have hsl : ((rlC l).drop (k * 2)).length = (l.length - k) * 2 := by rw [List.length_drop, hx]; omega
  have hs1 : ∀ u ∈ (rlC l).drop (k * 2), u.oneCell' = true := fun u hu => rlC_one l u (List.mem_of_mem_drop hu)
  have hcm' : c ≤ 9223372036854775807 := by unfold maxLen at hcm; omega
  have hck : ¬ c = k := by omega
  have hc0 : ¬ c = 0 := by omega
  have hcz : (k : Int) ≤ (c : Int) := by omega
  have hnz : ((l.length : Nat) : Int) ≤ (c : Int) := by omega
  have hkz : (k : Int) ≤ ((l.length : Nat) : Int) := by omega
  have hk1 : ¬ (0 : Int) = (k : Int) := by omega
  clear hl hct
  generalize l.length = n at *
  have hcq : ¬ c = n - k := by omega
  have mixed : Try.prog.follows .mixedOrders = true := by kernel_rfl
  go_enter Try.func67, Try.ntmps67
  have hown' : OwnF w.drew base (.slice (some ⟨g, 0, none⟩) 0 c) 0 [] := ownF_keep hown fun _ _ => rfl
  have hb' : base ≤ w.drew.heap.size := hb
  have hsrc' : ∀ j u, ((rlC l).drop (k * 2))[j]? = some u → w.drew.cell? ((⟨g, k * 2, none⟩ : Addr).add j) = some u := hsrc
  clear hown hsrc
  go_wp2_with fail
  go_region_law_o (refine step_append2 rfl (.tmp 22) (.tmp 25) rfl base (.slice (some ⟨g, 0, none⟩) 0 c) 0 [] (by simp [Act.eval, Act.put]) hown' (some ⟨g, k * 2, none⟩) (n - k) (c - k) (by simp [Act.eval, Act.put]) ((rlC l).drop (k * 2)) hsl (fun _ => ⟨_, rfl, hsrc'⟩) hs1 (by omega) hb' ?_; intro v2 w2 hown2 hg2 hv2 hin2; obtain rfl := hin2 g c rfl (by omega); obtain ⟨g3, cur3, e4, hb3, hg3, hA3, hl3, ht3⟩ := ownF_some hown2; injection e4 with e4; subst e4)
  simp only [Nat.zero_add, List.nil_append] at hown2 ht3
  have HL3 := Lib.hid hl3; clear hl3
  have HT3 := Lib.hid ht3; clear ht3
  have hnkz : ((n - k : Nat) : Int) ≤ (n : Int) := by omega
  go_wp2_with (refine wpList_clear2 rfl (.tmp 31) rfl (some ⟨g, (n - k) * 2, none⟩) (n - (n - k)) (c - (n - k)) g ((n - k) * 2) cur3 _ rfl hA3 (fun _ => rfl) (by have := HL3.out; omega) ?_; intro w3 zs hzl hA4 hk4)
  go_ret
  refine ⟨_, rfl, ⟨?_, HW.out⟩, (Kept.from_drew (kept_grown hg2)).trans (hk4.mono fun j hj => .inl (by subst hj; rfl)), fun k hk => .inl hk⟩
  rw [HL.out, HX.out]
  refine ownF_mk hsl hb3 hA4 (by omega) hcm (by rw [length_splice _ _ _ (by have := HL3.out; omega)]; exact HL3.out) ?_
  rw [splice_take _ _ _ _ (Nat.le_refl _) (by have := HL3.out; omega)]
  exact HT3.out
end
section
set_option linter.unusedVariables false
set_option linter.unusedSimpArgs false
open Go.RowKit
/-- A call that leaves all that was there, and answers b. -/
abbrev SaysB (b : Bool) (W : World) (e : Ending) (W' : World) : Prop := e = .returned (.bool b) ∧ Below W.heap.size W W'
set_option maxHeartbeats 1000000 in
set_option maxRecDepth 100000 in
theorem search_any (cb : Array Value) (n k : Nat) (p : Nat → Bool) (w : World) (hsz : n < 1000000000)
    (hf : ∀ W, Below w.heap.size w W → ∀ i : Nat, i < n → Calls Try.prog 65 (#[.int .i64 i] ++ cb) W (SaysB (p i) W))
    (hk : k ≤ n) (hlo : ∀ t, t < k → p t = false) (hhi : ∀ t, k ≤ t → t < n → p t = true) :
    Calls Try.prog 64 #[.int .i64 n, .func (.func 65) #[] cb] w fun e w' => e = .returned (.int .i64 k) ∧ Below w.heap.size w w' := by
  have HF := Lib.hid hf
  have H0 := Lib.hid hlo
  have H1 := Lib.hid hhi
  clear hf hlo hhi
  go_enter Try.func64, Try.ntmps64
  go_wp2
  go_loopg [5, 6] n (fun kx s5 s6 wr => ∃ (lo hi : Nat), s5 = .int .i64 lo ∧ s6 = .int .i64 hi ∧ lo ≤ k ∧ k ≤ hi ∧ hi ≤ n ∧ hi - lo ≤ kx ∧ Below w.heap.size w wr)
  case atStart => exact ⟨0, n, rfl, rfl, Nat.zero_le _, hk, Nat.le_refl _, by omega, Below.refl _ _⟩
  case round =>
    obtain ⟨lo, hi, rfl, rfl, hlk, hkh, hin, hg, hB⟩ := hrel
    by_cases hlt : lo < hi
    · have hc := HF.out _ hB ((lo + hi) / 2) (by omega)
      rw [show (((lo + hi) / 2 : Nat) : Int) = ((lo : Int) + (hi : Int)) / 2 by omega] at hc
      by_cases hm : (lo + hi) / 2 < k
      · rw [H0.out _ hm] at hc
        go_wp2_with (go_at_call 65; refine hc.mono ?_; rintro e w' ⟨rfl, hB2⟩)
        go_roundg (hi - ((lo + hi) / 2 + 1))
        case measure => omega
        case rel => exact ⟨(lo + hi) / 2 + 1, hi, by rw [show ((lo : Int) + (hi : Int)) / 2 + 1 = (((lo + hi) / 2 + 1 : Nat) : Int) by omega], rfl, by omega, by omega, by omega, by omega, hB.trans (hB2.mono hB.size)⟩
      · rw [H1.out _ (by omega) (by omega)] at hc
        go_wp2_with (go_at_call 65; refine hc.mono ?_; rintro e w' ⟨rfl, hB2⟩)
        go_roundg ((lo + hi) / 2 - lo)
        case measure => omega
        case rel => exact ⟨lo, (lo + hi) / 2, rfl, by rw [show ((lo : Int) + (hi : Int)) / 2 = (((lo + hi) / 2 : Nat) : Int) by omega], by omega, by omega, by omega, by omega, hB.trans (hB2.mono hB.size)⟩
    · obtain rfl : lo = hi := by omega
      obtain rfl : lo = k := by omega
      go_wp2
      go_ret
      exact ⟨rfl, hB⟩
/-- A set: at p its bound and its ranges, which the call made itself. -/
structure SetV (w : World) (base p : Nat) (most : Int) (v : Value) (l : RL) : Prop where
  at_ : At w p 86 [.int .i64 most, v]
  own : OwnL w base v l
  ne : v.ownBlock ≠ some p
  bp : base ≤ p
section
variable {w w' : World} {base p : Nat} {most : Int} {v : Value} {l : RL}
theorem SetV.kept {S : Nat → Prop} (h : SetV w base p most v l) (k : Kept S w w') (hp : ¬ S p) (hv : ∀ j, v.ownBlock = some j → ¬ S j) : SetV w' base p most v l :=
  ⟨h.at_.kept k hp, h.own.kept k hv, h.ne, h.bp⟩
theorem SetV.below (h : SetV w base p most v l) (k : Below w.heap.size w w') : SetV w' base p most v l := h.kept (Kept.of_below k (fun _ => False)) (fun h => h) (fun _ _ h => h)
theorem SetV.base_ {base' : Nat} (h : SetV w base p most v l) (hb : base' ≤ base) : SetV w base' p most v l := ⟨h.at_, h.own.base_ hb, h.ne, Nat.le_trans hb h.bp⟩
end
theorem cl_add1 (b : Nat) (x lo hi : Int) (W : World) (hb : b < W.heap.size) (hc : W.cell? ⟨b, 0, none⟩ = some (.int .u64 x)) : Calls Try.prog 75 (#[.agg #[.int .u64 lo, .int .u64 hi]] ++ #[.pointer (some ⟨b, 0, none⟩)]) W (SaysB (decide (x ≤ hi)) W) := by
  have hc2 : (W.alloc (.cells #[.int .u64 lo, .int .u64 hi] 99)).cell? ⟨b, 0, none⟩ = some (.int .u64 x) := by rw [← hc]; exact World.cell?_of_block (Below.heap_alloc W _ b hb)
  go_enter Try.func75, Try.ntmps75
  go_wp2
  go_ret
  exact ⟨by first | rfl | simp, (Below.refl _ _).alloc (Nat.le_refl _) _⟩
theorem cl_add2 (b : Nat) (x lo hi : Int) (W : World) (hb : b < W.heap.size) (hc : W.cell? ⟨b, 0, none⟩ = some (.int .u64 x)) : Calls Try.prog 76 (#[.agg #[.int .u64 lo, .int .u64 hi]] ++ #[.pointer (some ⟨b, 0, none⟩)]) W (SaysB (decide (x < lo)) W) := by
  have hc2 : (W.alloc (.cells #[.int .u64 lo, .int .u64 hi] 99)).cell? ⟨b, 0, none⟩ = some (.int .u64 x) := by rw [← hc]; exact World.cell?_of_block (Below.heap_alloc W _ b hb)
  go_enter Try.func76, Try.ntmps76
  go_wp2
  go_ret
  exact ⟨by first | rfl | simp, (Below.refl _ _).alloc (Nat.le_refl _) _⟩
theorem cl_cut (b : Nat) (x lo hi : Int) (W : World) (hb : b < W.heap.size) (hc : W.cell? ⟨b, 0, none⟩ = some (.int .u64 x)) : Calls Try.prog 57 (#[.agg #[.int .u64 lo, .int .u64 hi]] ++ #[.pointer (some ⟨b, 0, none⟩)]) W (SaysB (decide (x ≤ lo)) W) := by
  have hc2 : (W.alloc (.cells #[.int .u64 lo, .int .u64 hi] 99)).cell? ⟨b, 0, none⟩ = some (.int .u64 x) := by rw [← hc]; exact World.cell?_of_block (Below.heap_alloc W _ b hb)
  go_enter Try.func57, Try.ntmps57
  go_wp2
  go_ret
  exact ⟨by first | rfl | simp, (Below.refl _ _).alloc (Nat.le_refl _) _⟩
theorem cl_ends (b : Nat) (x lo hi : Int) (W : World) (hb : b < W.heap.size) (hc : W.cell? ⟨b, 0, none⟩ = some (.int .u64 x)) : Calls Try.prog 63 (#[.agg #[.int .u64 lo, .int .u64 hi]] ++ #[.pointer (some ⟨b, 0, none⟩)]) W (SaysB (decide (x < hi)) W) := by
  have hc2 : (W.alloc (.cells #[.int .u64 lo, .int .u64 hi] 99)).cell? ⟨b, 0, none⟩ = some (.int .u64 x) := by rw [← hc]; exact World.cell?_of_block (Below.heap_alloc W _ b hb)
  go_enter Try.func63, Try.ntmps63
  go_wp2
  go_ret
  exact ⟨by first | rfl | simp, (Below.refl _ _).alloc (Nat.le_refl _) _⟩
set_option maxRecDepth 100000 in
theorem first1_any (b1 b2 p base : Nat) (most : Int) (v : Value) (l : RL) (i : Nat) (r : Int × Int) (gf : Nat) (cf : Array Value) (q : Bool) (W : World) (hi : l[i]? = some r) (hs : SetV W base p most v l) (h1 : W.cell? ⟨b1, 0, none⟩ = some (.func (.func gf) #[] cf)) (h2 : W.cell? ⟨b2, 0, none⟩ = some (.pointer (some ⟨p, 0, none⟩)))
    (eg : ∀ args w, (callFunc gf args).run Try.prog w = .ok (.enter gf args) w)
    (hc : ∀ n, Calls Try.prog gf (#[.agg #[.int .u64 r.1, .int .u64 r.2]] ++ cf) (W.drewN n) (SaysB q (W.drewN n))) :
    Calls Try.prog 65 (#[.int .i64 i] ++ #[.pointer (some ⟨b1, 0, none⟩), .pointer (some ⟨b2, 0, none⟩)]) W (SaysB q W) := by
  have hlt := (List.getElem?_eq_some_iff.1 hi).1
  obtain ⟨g, c, rfl, hbg, hg, hc0, hc1⟩ := hs.own.cell hi
  have hcv : W.cell? ⟨p, 1, none⟩ = some (.slice (some ⟨g, 0, none⟩) l.length c) := by rw [hs.at_.cell]; rfl
  have hiz : (i : Int) < ((l.length : Nat) : Int) := by omega
  have HC := Lib.hid hc
  obtain ⟨a, b⟩ := r
  simp only at hc0 hc1
  clear hs hi hc
  generalize l.length = n at *
  go_enter Try.func65, Try.ntmps65
  go_wp2
  go_region_with (go_at_fn gf; refine (HC.out 1).mono ?_; rintro e w' ⟨rfl, hB⟩)
  all_goals go_wp2
  all_goals go_ret
  all_goals exact ⟨rfl, ⟨hB.os, hB.tape, hB.output, hB.size, hB.block⟩⟩
def atP (l : RL) (q : Int × Int → Bool) (t : Nat) : Bool := match l[t]? with | some r => q r | none => true
set_option maxRecDepth 100000 in
theorem first_any (p base : Nat) (most : Int) (v : Value) (l : RL) (gf : Nat) (cf : Array Value) (q : Int × Int → Bool) (k : Nat) (w : World) (hs : SetV w base p most v l) (hn : l.length < 1000000000)
    (eg : ∀ args w, (callFunc gf args).run Try.prog w = .ok (.enter gf args) w)
    (hq : ∀ W, Below w.heap.size w W → ∀ r ∈ l, Calls Try.prog gf (#[.agg #[.int .u64 r.1, .int .u64 r.2]] ++ cf) W (SaysB (q r) W))
    (hk : k ≤ l.length) (hlo : ∀ t r, t < k → l[t]? = some r → q r = false) (hhi : ∀ t r, k ≤ t → l[t]? = some r → q r = true) :
    Calls Try.prog 56 #[.pointer (some ⟨p, 0, none⟩), .func (.func gf) #[] cf] w fun e w' => e = .returned (.int .i64 k) ∧ Below w.heap.size w w' := by
  obtain ⟨w2, hw2⟩ : ∃ w2, w2 = (w.alloc (.cells #[.pointer (some ⟨p, 0, none⟩)] 71)).alloc (.cells #[.func (.func gf) #[] cf] 104) := ⟨_, rfl⟩
  have hB0 : Below w.heap.size w w2 := by rw [hw2]; exact ((Below.refl _ w).alloc (Nat.le_refl _) _).alloc (by simp) _
  have hsz : w2.heap.size = w.heap.size + 1 + 1 := by rw [hw2]; simp
  have c2 : w2.cell? ⟨w.heap.size, 0, none⟩ = some (.pointer (some ⟨p, 0, none⟩)) := by
    rw [hw2, World.cell?_of_block (Below.heap_alloc _ _ _ (by simp)), cell_of_row _ _ _ _ _ _ (heap_alloc_new w _)]
    rfl
  have c1 : w2.cell? ⟨w.heap.size + 1, 0, none⟩ = some (.func (.func gf) #[] cf) := by
    rw [hw2]
    have := heap_alloc_new (w.alloc (.cells #[.pointer (some ⟨p, 0, none⟩)] 71)) (.cells #[.func (.func gf) #[] cf] 104)
    rw [World.size_alloc] at this
    rw [cell_of_row _ _ _ _ _ _ this]
    rfl
  have hS := search_any #[.pointer (some ⟨w.heap.size + 1, 0, none⟩), .pointer (some ⟨w.heap.size, 0, none⟩)] l.length k (atP l q) w2 hn
    (fun W hW i hi => by
      have hr : l[i]? = some l[i] := List.getElem?_eq_getElem hi
      have hB1 : Below w.heap.size w W := hB0.trans (hW.mono hB0.size)
      have hP : atP l q i = q l[i] := by unfold atP; rw [hr]
      rw [hP]
      exact first1_any (w.heap.size + 1) w.heap.size p base most v l i l[i] gf cf _ W hr (hs.below hB1) ((hW.cell (p := ⟨w.heap.size + 1, 0, none⟩) (by rw [hsz]; exact Nat.lt_succ_self _)).trans c1) ((hW.cell (p := ⟨w.heap.size, 0, none⟩) (show w.heap.size < w2.heap.size by omega)).trans c2) eg
        (fun n => hq (W.drewN n) ⟨hB1.os, hB1.tape, hB1.output, hB1.size, hB1.block⟩ _ (List.getElem_mem hi)))
    hk (fun t ht => by
      have hr : l[t]? = some l[t] := List.getElem?_eq_getElem (by omega)
      unfold atP
      rw [hr]
      exact hlo t _ ht hr) (fun t h1 h2 => by
      have hr : l[t]? = some l[t] := List.getElem?_eq_getElem h2
      unfold atP
      rw [hr]
      exact hhi t _ h1 hr)
  have HS := Lib.hid hS
  obtain ⟨A, c, rfl, hnc, _⟩ := hs.own.shape
  have hcv : World.cell? ((w.alloc (.cells #[.pointer (some ⟨p, 0, none⟩)] 71)).alloc (.cells #[.func (.func gf) #[] cf] 104)) ⟨p, 1, none⟩ = some (.slice A l.length c) := by
    have h2 := hs.below hB0
    rw [← hw2, h2.at_.cell]; rfl
  have HW := Lib.hid hw2
  have HB0 := Lib.hid hB0
  clear hw2 hB0 hsz c1 c2 hS hs hq hlo hhi
  generalize l.length = n at *
  go_enter Try.func56, Try.ntmps56
  go_wp2_with (go_at_call 64; rw [← HW.out]; refine HS.out.mono ?_; rintro e w' ⟨rfl, hB⟩)
  go_ret
  exact ⟨rfl, HB0.out.trans (hB.mono HB0.out.size)⟩
set_option maxRecDepth 100000 in
theorem ends_any (p base : Nat) (most : Int) (v : Value) (l : RL) (x : Int) (k : Nat) (w : World) (hs : SetV w base p most v l) (hn : l.length < 1000000000)
    (hk : k ≤ l.length) (hlo : ∀ t r, t < k → l[t]? = some r → r.2 ≤ x) (hhi : ∀ t r, k ≤ t → l[t]? = some r → x < r.2) :
    Calls Try.prog 55 #[.pointer (some ⟨p, 0, none⟩), .int .u64 x] w fun e w' => e = .returned (.int .i64 k) ∧ Below w.heap.size w w' := by
  obtain ⟨w2, hw2⟩ : ∃ w2, w2 = w.alloc (.cells #[.int .u64 x] 22) := ⟨_, rfl⟩
  have hB0 : Below w.heap.size w w2 := by rw [hw2]; exact (Below.refl _ w).alloc (Nat.le_refl _) _
  have hsz : w2.heap.size = w.heap.size + 1 := by rw [hw2]; simp
  have c2 : w2.cell? ⟨w.heap.size, 0, none⟩ = some (.int .u64 x) := by
    rw [hw2, cell_of_row _ _ _ _ _ _ (heap_alloc_new w _)]
    rfl
  have eg : ∀ args w, (callFunc 63 args).run Try.prog w = .ok (.enter 63 args) w := enters_of Try.func63 (by kernel_rfl) rfl
  have HS := Lib.hid (first_any p base most v l 63 #[.pointer (some ⟨w.heap.size, 0, none⟩)] (fun r => decide (x < r.2)) k w2 (hs.below hB0) hn eg
    (fun W hW r _ => cl_ends w.heap.size x r.1 r.2 W (by have := hW.size; omega) ((hW.cell (p := ⟨w.heap.size, 0, none⟩) (by rw [hsz]; exact Nat.lt_succ_self _)).trans c2))
    hk (fun t r ht hr => by have := hlo t r ht hr; simp; omega) (fun t r ht hr => by have := hhi t r ht hr; simp; omega))
  have HW := Lib.hid hw2
  have HB0 := Lib.hid hB0
  clear hw2 hB0 hsz c2 hs hlo hhi eg
  go_enter Try.func55, Try.ntmps55
  go_wp2_with (go_at_call 56; rw [← HW.out]; refine HS.out.mono ?_; rintro e w' ⟨rfl, hB⟩)
  go_ret
  exact ⟨rfl, HB0.out.trans (hB.mono HB0.out.size)⟩
end
end Go.Proofs.Ytahalbmcijbbmaa
