/-
  outbuf.Buffer: Lost.
-/
import Derived.Test.YtbejpafephofaaaGreatMq10
import Derived.Deep.LoopGhost
import Derived.Deep.CutRange
import Derived.Test.YtbejpafephofaaaGreatMq9
import Derived.Test.YtbejpafephofaaaGreatProg
import Derived.Test.YtbejpafephofaaaGreatMq0
import Derived.ChangeKeysEq
namespace Go.Proofs.YtbejpafephofaaaGreat
section
set_option linter.unusedVariables false
set_option linter.unusedSimpArgs false
open Go.RowKit
/-- What Lost keeps while it adds gap by gap: r stands at block g. -/
structure Lz (w wr : World) (base p pa pl : Nat) (va vl vw : Value) (la : RL) (S : OS) (lo f hi g : Nat) : Prop where
  om : ∃ vl' l, Om wr base p pa pl va vl' vw la l (S.bs.drop (baseO S)) (baseO S) S.gn S.ov (endO S) S.en S.ea ∧ Gd l ∧ Says l (lostT S lo f) ∧ ∀ j, oO p pa pl va vl' vw j → j ≠ g ∧ (oO p pa pl va vl vw j ∨ w.heap.size ≤ j)
  k : Kept (oO p pa pl va vl vw) w wr
  r : At wr g 89 [.int .u64 f, .int .u64 hi]
  ge : w.heap.size ≤ g
theorem Lz.below {w wr wr' : World} {base p pa pl : Nat} {va vl vw : Value} {la : RL} {S : OS} {lo f hi g : Nat} (h : Lz w wr base p pa pl va vl vw la S lo f hi g) (k : Below wr.heap.size wr wr') : Lz w wr' base p pa pl va vl vw la S lo f hi g := by
  obtain ⟨vl', l, h1, h2, h3, h4⟩ := h.om
  exact ⟨⟨vl', l, h1.below k, h2, h3, h4⟩, h.k.trans (Kept.of_below k _), h.r.below k h.r.lt, h.ge⟩
theorem lost_end {w wr Y : World} {base p pa pl : Nat} {va vl vw : Value} {la ll : RL} {S : OS} {off f g : Nat} {n : Int} (h : Lz w wr base p pa pl va vl vw la S (tLo S.gn off) f (tHi S.gn off n) g) (hok : S.ok) (hy : Sa S la ll) (hlf : tLo S.gn off ≤ f) (hfh : f ≤ tHi S.gn off n) (h1 : ∀ m : Nat, f ≤ m → m < tHi S.gn off n → hasL la m = true) (fin : Bool) (k : Below wr.heap.size wr Y) :
    ((fin && S.en && !S.ea) = false → OfPost (.tuple #[]) base p (oO p pa pl va vl vw) (lostO S off n.toNat fin) w (.returned (.tuple #[])) Y) ∧
    ((fin && S.en && !S.ea) = true → OfPost (.tuple #[]) base p (oO p pa pl va vl vw) (lostO S off n.toNat fin) w (.returned (.tuple #[])) (Y.setCell ⟨p, 6, none⟩ (.bool true))) ∧
    Y.cell? ⟨p, 6, none⟩ = some (.bool (endO S)) ∧ Y.frozen? ⟨p, 6, none⟩ = false ∧ Y.cell? ⟨p, 7, none⟩ = some (.bool S.en) ∧ Y.cell? ⟨p, 8, none⟩ = some (.bool S.ea) := by
  obtain ⟨⟨vl', l, hO, hg, hs, hn⟩, hk, _, _⟩ := h.below k
  have hsa : Sa (lostO S off n.toNat fin) la l := ⟨hy.ga, hg, hy.ya, lostT_end hy.ya hlf hfh hs h1 fin⟩
  have hen : endO (lostO S off n.toNat fin) = (S.ov && !S.ea && (!S.en || (S.el || (fin && S.en)))) := rfl
  have hov : S.en = true → S.ov = true := fun e => (hok.eo e).1
  refine ⟨fun hf => ?_, fun hf => ?_, hO.c6, hO.at_.frozen 6, hO.c7, hO.c8⟩
  · have e : endO (lostO S off n.toNat fin) = endO S := by
      rw [hen]
      unfold endO
      revert hf
      cases fin <;> cases S.en <;> cases S.ea <;> simp
    refine ⟨rfl, _, ⟨pa, pl, va, vl', vw, la, l, rfl, ?_, hsa⟩, hk, fun j hj => (hn j hj).2⟩
    rw [e]
    exact hO
  · have e : endO (lostO S off n.toNat fin) = true := by
      simp only [Bool.and_eq_true, Bool.not_eq_true'] at hf
      rw [hen, hf.1.1, hf.1.2, hf.2, hov hf.1.2]
      simp
    refine ⟨rfl, _, ⟨pa, pl, va, vl', vw, la, l, rfl, ?_, hsa⟩, hk.setCell (p := ⟨p, 6, none⟩) (.inl (oO_at (i := 0) rfl)) _, fun j hj => (hn j hj).2⟩
    rw [e]
    exact hO.set_du true
set_option maxHeartbeats 16000000 in
set_option maxRecDepth 100000 in
theorem olost_any {w : World} {base p : Nat} {O : Nat → Prop} {S : OS} (h : Of w base p O S) (hok : S.ok) (hb : base ≤ w.heap.size) (hL : S.bs.length ≤ 1099511627776) (off : Nat) (ho : off < 18446744073709551616) (n : Int) (hn : -9223372036854775808 ≤ n ∧ n < 9223372036854775808) (fin : Bool) :
    Calls Tryz.prog 41 #[.pointer (some ⟨p, 0, none⟩), .int .u64 off, .int .i64 n, .bool fin] w (OfPost (.tuple #[]) base p O (lostO S off n.toNat fin) w) := by
  obtain ⟨pa, pl, va, vl, vw, la, ll, rfl, hO, hy⟩ := h
  have hgb := gn_base hok
  have hth := tHi_bound hok off n
  have ht2 := (tHi_le S.gn off n).2
  have hlaf := hy.la_few hok
  have hp := hO.at_.lt
  have HT := Lib.hid (told_any (w := w) (p := p) S.gn off n hp hO.c2 (by omega) ho hn)
  have HE := Lib.hid (fun (wr Y : World) (f g : Nat) (hz : Lz w wr base p pa pl va vl vw la S (tLo S.gn off) f (tHi S.gn off n) g) (hlf : tLo S.gn off ≤ f) (hfh : f ≤ tHi S.gn off n) (h1 : ∀ m : Nat, f ≤ m → m < tHi S.gn off n → hasL la m = true) (k : Below wr.heap.size wr Y) => lost_end hz hok hy hlf hfh h1 fin k)
  obtain ⟨lo, hlo⟩ : ∃ lo, lo = tLo S.gn off := ⟨_, rfl⟩
  obtain ⟨hi, hhi⟩ : ∃ hi, hi = tHi S.gn off n := ⟨_, rfl⟩
  rw [← hlo, ← hhi] at HT hth HE
  rw [← hhi] at ht2
  clear hlo hhi
  have HX : Hid (∀ w2, Below w.heap.size w w2 → ∃ X, X = w2.alloc (.cells #[.int .u64 lo, .int .u64 hi] 89) ∧ Hid (Lz w X base p pa pl va vl vw la S lo lo hi w2.heap.size)) := Lib.hid (fun w2 hB => ⟨_, rfl, Lib.hid ⟨⟨vl, ll, hO.below (hB.alloc hB.size _), hy.gl, fun j => by rw [hy.yl, lostT_start], fun j hj => ⟨fun e => by have := (hO.lt j hj).2; have := hB.size; omega, .inl hj⟩⟩, Kept.of_below (hB.alloc hB.size _) _, At.new w2 _ _, hB.size⟩⟩)
  -- one round: Gap in both orders
  have HGB : Hid (∀ wr f g, Lz w wr base p pa pl va vl vw la S lo f hi g → Calls Tryz.prog 55 #[.pointer (some ⟨pa, 0, none⟩), .int .u64 f, .int .u64 hi] wr.drew fun e w' => e = .returned (.tuple (gapV la f hi)) ∧ Below wr.heap.size wr w') := Lib.hid (fun wr f g hz => by
    obtain ⟨vl', l, k1, _⟩ := hz.om
    exact (gap_any' base pa 2048 va la wr.drew k1.drew.sa (by omega) hy.ga f hi).mono fun e w' hP => ⟨hP.1, (below_drewN (Below.refl _ wr) 1).trans hP.2⟩)
  have HGA : Hid (∀ wr f g, Lz w wr base p pa pl va vl vw la S lo f hi g → Calls Tryz.prog 55 #[.pointer (some ⟨pa, 0, none⟩), .int .u64 f, .int .u64 hi] (wr.drew.alloc (.cells #[.int .u64 0, .int .u64 0] 89)) fun e w' => e = .returned (.tuple (gapV la f hi)) ∧ Below wr.heap.size wr w' ∧ At w' wr.drew.heap.size 89 [.int .u64 0, .int .u64 0]) := Lib.hid (fun wr f g hz => by
    obtain ⟨vl', l, k1, _⟩ := hz.om
    have hbA : Below wr.heap.size wr (wr.alloc (.cells #[.int .u64 0, .int .u64 0] 89)).drew := ((Below.refl _ wr).alloc (Nat.le_refl _) _).drew
    exact (gap_any' base pa 2048 va la _ (k1.below hbA).sa (by omega) hy.ga f hi).mono fun e w' hP => ⟨hP.1, hbA.trans (hP.2.mono hbA.size), ((At.new wr 89 [.int .u64 0, .int .u64 0]).drew).below hP.2 (by show wr.heap.size < (wr.alloc _).heap.size; simp)⟩)
  have HYA : Hid (∀ wr w2 : World, Below wr.heap.size wr w2 → At w2 wr.heap.size 89 [.int .u64 0, .int .u64 0] → ∀ x y : Int, ∃ Y, Y = ((w2.setCell ⟨wr.heap.size, 0, none⟩ (.int .u64 x)).setCell ⟨wr.heap.size, 1, none⟩ (.int .u64 y)) ∧ Below wr.heap.size wr Y ∧ At Y wr.heap.size 89 [.int .u64 x, .int .u64 y] ∧ wr.heap.size ≤ wr.heap.size) := Lib.hid (fun wr w2 hB hA x y => ⟨_, rfl, (hB.setCell (Nat.le_refl _) _).setCell (Nat.le_refl _) _, at_two hA _ _, Nat.le_refl _⟩)
  have HYB : Hid (∀ wr w2 : World, Below wr.heap.size wr w2 → ∀ x y : Int, ∃ Y, Y = (w2.alloc (.cells #[.int .u64 x, .int .u64 y] 89)) ∧ Below wr.heap.size wr Y ∧ At Y w2.heap.size 89 [.int .u64 x, .int .u64 y] ∧ wr.heap.size ≤ w2.heap.size) := Lib.hid (fun wr w2 hB x y => ⟨_, rfl, hB.alloc hB.size _, At.new w2 _ _, hB.size⟩)
  have HADD : Hid (∀ (wr Y : World) (f g gg a e : Nat), Lz w wr base p pa pl va vl vw la S lo f hi g → lo ≤ f → f ≤ a → a < e → e ≤ hi → (∀ n : Nat, f ≤ n → n < a → hasL la n = true) → (∀ n : Nat, a ≤ n → n < e → hasL la n = false) → Below wr.heap.size wr Y → At Y gg 89 [.int .u64 a, .int .u64 e] → wr.heap.size ≤ gg →
      Calls Tryz.prog 52 #[.pointer (some ⟨pl, 0, none⟩), .int .u64 a, .int .u64 e] Y.drew fun ez w' => (∃ x, ez = .returned (.bool x)) ∧ w'.cell? ⟨gg, 1, none⟩ = some (.int .u64 e) ∧ w'.cell? ⟨g, 0, none⟩ = some (.int .u64 f) ∧ w'.frozen? ⟨g, 0, none⟩ = false ∧ Hid (Lz w (w'.setCell ⟨g, 0, none⟩ (.int .u64 e)) base p pa pl va vl vw la S lo e hi g)) := Lib.hid (fun wr Y f g gg a e hz hlf hfa hae heh h1 h2 hB hA hgg => by
    have hz2 := (hz.below hB)
    obtain ⟨vl', l, kk1, k2, k3, k4⟩ := hz.om
    have k1 := kk1.below hB
    have hl := lostT_few hok k2 (by omega) k3
    have hgl := hok.gl
    have hgp := lostT_gap hok hL hy.ya k2 hlf k3 hfa hae heh ht2 h1 h2
    have hbY : base ≤ Y.drew.heap.size := Nat.le_trans hb hz2.k.size
    have hgY : g < Y.drew.heap.size := hz2.r.lt
    refine (add_any' base pl 2048 vl' l Y.drew k1.drew.sl (by omega) k2 hbY (by omega) a e (by omega)).mono fun ez w' hP => ?_
    obtain ⟨he, vl2, m1, m2, m3⟩ := k1.drew.losts hP
    have hng : ¬ oO p pa pl va vl' vw g := fun e => (k4 g e).1 rfl
    have hAw : At w' g 89 [.int .u64 f, .int .u64 hi] := hz2.r.drew.kept m2 hng
    have hngg : ¬ oO p pa pl va vl' vw gg := fun e => by have := (kk1.lt gg e).2; omega
    refine ⟨⟨_, he⟩, by rw [(hA.drew.kept m2 hngg).cell]; rfl, by rw [hAw.cell]; rfl, hAw.frozen 0, Lib.hid ⟨⟨vl2, _, ?_, hgp.1, hgp.2, fun j hj => ?_⟩, ?_, hAw.set 0 _, hz.ge⟩⟩
    · exact m1.kept ((Kept.refl (· = g) w').setAt 0 _) fun j hj e => by
        subst e
        rcases m3 j hj with h | h
        · exact hng h
        · omega
    · rcases m3 j hj with h | h
      · exact k4 j h
      · exact ⟨fun e => by omega, .inr (Nat.le_trans hz2.k.size h)⟩
    · refine (hz2.k.drew.trans' m2 fun j hj => (k4 j hj).2).setCell (p := ⟨g, 0, none⟩) (.inr hz.ge) _)
  have HC : Hid (∀ (wr : World) (f g : Nat), Lz w wr base p pa pl va vl vw la S lo f hi g → wr.cell? ⟨g, 0, none⟩ = some (.int .u64 f) ∧ wr.cell? ⟨g, 1, none⟩ = some (.int .u64 hi) ∧ wr.cell? ⟨p, 3, none⟩ = some (.pointer (some ⟨pa, 0, none⟩)) ∧ wr.cell? ⟨p, 4, none⟩ = some (.pointer (some ⟨pl, 0, none⟩))) := Lib.hid (fun wr f g hz => by
    obtain ⟨vl', l, k1, _⟩ := hz.om
    exact ⟨by rw [hz.r.cell]; rfl, by rw [hz.r.cell]; rfl, k1.c3, k1.c4⟩)
  have HGC := Lib.hid (fun f => gap_cases hy.ga f hi)
  have mixed : Tryz.prog.follows .mixedOrders = true := by kernel_rfl
  have hhi : hi ≤ 1099511627776 := by omega
  have hlohi := hth.1
  have hbig : S.gn ≤ 1099511627776 := by omega
  clear hO hy hok hgb hth ht2 hlaf hb hL
  go_enter Tryz.func41, Tryz.ntmps41
  go_wp2_with (go_at_call 51; (with_reducible refine HT.out.mono ?_); rintro ez w2 ⟨rfl, hB2⟩; have HY := Lib.hid (HX.out w2 hB2); clear hB2)
  obtain ⟨X, hXe, hXz⟩ := HY.out
  rw [← hXe]
  clear hXe HY
  generalize w2.heap.size = g at *
  go_loopg [] (hi - lo) (fun kx wr => ∃ f : Nat, lo ≤ f ∧ f ≤ hi ∧ hi - f ≤ kx ∧ Hid (Lz w wr base p pa pl va vl vw la S lo f hi g))
  case atStart => exact ⟨lo, Nat.le_refl _, hlohi, Nat.le_refl _, hXz⟩
  case round =>
    -- ROUND
    obtain ⟨f, hlf, hfh, hkx, hF⟩ := hrel
    obtain ⟨r0, r1, r3, r4⟩ := HC.out wr f g hF.out
    have HA := Lib.hid (HGA.out wr f g hF.out)
    have HB := Lib.hid (HGB.out wr f g hF.out)
    have HDZ : Hid (Below wr.heap.size wr (wr.drew.alloc (.cells #[.int .u64 0, .int .u64 0] 89))) := Lib.hid ((below_drewN (Below.refl _ wr) 1).alloc (Nat.le_refl _) _)
    have HKEEP : Hid (∀ W, Below wr.heap.size wr W → (fun W => W.cell? ⟨g, 0, none⟩ = some (.int .u64 f) ∧ W.cell? ⟨g, 1, none⟩ = some (.int .u64 hi) ∧ W.cell? ⟨p, 3, none⟩ = some (.pointer (some ⟨pa, 0, none⟩))) W) := Lib.hid (fun W hB => by
      obtain ⟨k0, k1, k3, _⟩ := HC.out W f g (hF.out.below hB)
      exact ⟨k0, k1, k3⟩)
    rcases HGC.out f with ⟨hV, hall⟩ | ⟨a, e, hV, hfa, hae, heh, h1, h2⟩
    · rw [hV] at HA HB
      have HEY := Lib.hid (fun Y hB => HE.out wr Y f g hF.out hlf hfh hall hB)
      clear hV hall hF HE HADD HC HGA HGB HX HGC hXz HT
      go_wp2_with fail
      obtain ⟨Y, hY⟩ : ∃ x, wr.drew = x := ⟨_, rfl⟩
      rw [hY] at HA HB HDZ
      have HYS : Hid (wr.heap.size ≤ Y.heap.size) := Lib.hid (by rw [← hY]; exact Nat.le_refl _)
      refine wp_region_held_drew (S := (fun W => W.cell? ⟨g, 0, none⟩ = some (.int .u64 f) ∧ W.cell? ⟨g, 1, none⟩ = some (.int .u64 hi) ∧ W.cell? ⟨p, 3, none⟩ = some (.pointer (some ⟨pa, 0, none⟩)))) (by kernel_rfl) (⟨r0, r1, r3⟩) (fun hHeld => ?_)
      rw [hY] at hHeld ⊢
      clear hY
      refine tkq 0 (some 16) (v := ?_) rfl (Or.inl ⟨by rfl, ?_⟩) (by assumption) ?_
      rotate_left
      · intro w hSw; (try dsimp only at hSw); go_simp; first | done | (with_reducible rfl)
      simp only [Act.put, List.setIfInBounds_toArray, List.set_cons_zero, List.set_cons_succ]
      refine tkq 1 (some 17) (v := ?_) rfl (Or.inl ⟨by rfl, ?_⟩) (by assumption) ?_
      rotate_left
      · intro w hSw; (try dsimp only at hSw); go_simp; first | done | (with_reducible rfl)
      simp only [Act.put, List.setIfInBounds_toArray, List.set_cons_zero, List.set_cons_succ]
      refine tkq 2 (some 18) (v := ?_) rfl (Or.inl ⟨by rfl, ?_⟩) (by assumption) ?_
      rotate_left
      · intro w hSw; (try dsimp only at hSw); go_simp; first | done | (with_reducible rfl)
      simp only [Act.put, List.setIfInBounds_toArray, List.set_cons_zero, List.set_cons_succ]
      refine tkq 3 (some 19) (v := ?_) rfl (Or.inl ⟨by rfl, ?_⟩) (by assumption) ?_
      rotate_left
      · intro w hSw; (try dsimp only at hSw); go_simp; first | done | (with_reducible rfl)
      simp only [Act.put, List.setIfInBounds_toArray, List.set_cons_zero, List.set_cons_succ]
      refine tkq 4 (some 20) (v := ?_) rfl (Or.inl ⟨by rfl, ?_⟩) (by assumption) ?_
      rotate_left
      · intro w hSw; (try dsimp only at hSw); go_simp; first | done | (with_reducible rfl)
      simp only [Act.put, List.setIfInBounds_toArray, List.set_cons_zero, List.set_cons_succ]
      refine tkq 5 (some 21) (v := ?_) rfl (Or.inl ⟨by rfl, ?_⟩) (by assumption) ?_
      rotate_left
      · intro w hSw; (try dsimp only at hSw); go_simp; first | done | (with_reducible rfl)
      simp only [Act.put, List.setIfInBounds_toArray, List.set_cons_zero, List.set_cons_succ]
      refine tkq 6 (some 22) (v := ?_) rfl (Or.inl ⟨by rfl, ?_⟩) (by assumption) ?_
      rotate_left
      · intro w hSw; (try dsimp only at hSw); go_simp; first | done | (with_reducible rfl)
      simp only [Act.put, List.setIfInBounds_toArray, List.set_cons_zero, List.set_cons_succ]
      refine tkq 7 (some 23) (v := ?_) rfl (Or.inl ⟨by rfl, ?_⟩) (by assumption) ?_
      rotate_left
      · intro w hSw; (try dsimp only at hSw); go_simp; first | done | (with_reducible rfl)
      simp only [Act.put, List.setIfInBounds_toArray, List.set_cons_zero, List.set_cons_succ]
      refine wpAnyH_ready (rs := [8, 12]) (by kernel_rfl) (by simp) ?_
      refine AllReadyH.cons rfl (fun K hK => ?_) (AllReadyH.cons rfl (fun K hK => ?_) (AllReadyH.nil))
      · go_simp
        go_wp2_with (go_at_call 55; (with_reducible refine HB.out.mono ?_); rintro ez w6 ⟨rfl, hB2⟩)
        refine hK.out _ _ ((HKEEP.out _ hB2)) (fun hHeld => ?_)
        clear hK K
        refine tkq 9 (some 15) (v := ?_) rfl (Or.inl ⟨by rfl, ?_⟩) (by assumption) ?_
        rotate_left
        · intro w hSw; (try dsimp only at hSw); go_simp; first | done | (with_reducible rfl)
        simp only [Act.put, List.setIfInBounds_toArray, List.set_cons_zero, List.set_cons_succ]
        refine tkq 10 (some 25) (v := ?_) rfl (Or.inl ⟨by rfl, ?_⟩) (by assumption) ?_
        rotate_left
        · intro w hSw; (try dsimp only at hSw); go_simp; first | done | (with_reducible rfl)
        simp only [Act.put, List.setIfInBounds_toArray, List.set_cons_zero, List.set_cons_succ]
        refine tkq 11 (some 26) (v := ?_) rfl (Or.inl ⟨by rfl, ?_⟩) (by assumption) ?_
        rotate_left
        · intro w hSw; (try dsimp only at hSw); go_simp; first | done | (with_reducible rfl)
        simp only [Act.put, List.setIfInBounds_toArray, List.set_cons_zero, List.set_cons_succ]
        refine wpAnyH_ready (rs := [12]) (by kernel_rfl) (by simp) ?_
        refine AllReadyH.cons rfl (fun K hK => ?_) AllReadyH.nil
        go_simp
        go_wp2_with (fail)
        refine hK.out _ _ ((HKEEP.out _ (hB2.alloc hB2.size _))) (fun hHeld => ?_)
        clear hK K
        refine wpAnyH_ready (rs := [13]) (by kernel_rfl) (by simp) ?_
        refine AllReadyH.cons rfl (fun K hK => ?_) AllReadyH.nil
        refine step_st_any (by rfl) (w6.heap.size) 89 [.int .u64 0, .int .u64 0] [.int .u64 0, .int .u64 0] (by rfl) (by rfl) (At.new w6 89 [.int .u64 0, .int .u64 0]) rfl (by kernel_rfl) (by rfl) ?_
        intro w8 hAn hkn
        have hb8 := hkn.below (hB2.alloc hB2.size (.cells #[.int .u64 0, .int .u64 0] 89)) (Nat.le_trans hB2.size (by simp)) (fun j hj => by rw [hj]; exact hB2.size)
        refine hK.out _ _ ((HKEEP.out _ hb8)) (fun hHeld => ?_)
        clear hK K
        refine tkq 14 (some 10) (v := ?_) rfl (Or.inl ⟨by rfl, ?_⟩) (by assumption) ?_
        rotate_left
        · intro w hSw; (try dsimp only at hSw); go_simp; first | done | (with_reducible rfl)
        simp only [Act.put, List.setIfInBounds_toArray, List.set_cons_zero, List.set_cons_succ]
        refine wpAnyH_done (by kernel_rfl) ?_ _
        obtain ⟨z1, z2, z3, z4, z5, z6⟩ := HEY.out w8 hb8
        generalize S.en = en at *
        generalize S.ea = ea at *
        cases fin
        · have HZ := Lib.hid (z1 (by simp))
          clear z1 z2 HEY
          go_wp2
          go_end0
          exact HZ.out
        · cases en
          · have HZ := Lib.hid (z1 (by simp))
            clear z1 z2 HEY
            go_wp2
            go_end0
            exact HZ.out
          · cases ea
            · have HZ := Lib.hid (z2 (by simp))
              clear z1 z2 HEY
              go_wp2
              go_end0
              exact HZ.out
            · have HZ := Lib.hid (z1 (by simp))
              clear z1 z2 HEY
              go_wp2
              go_end0
              exact HZ.out
      · go_simp
        go_wp2_with (fail)
        refine hK.out _ _ ((HKEEP.out _ HDZ.out)) (fun hHeld => ?_)
        clear hK K
        refine wpAnyH_ready (rs := [8]) (by kernel_rfl) (by simp) ?_
        refine AllReadyH.cons rfl (fun K hK => ?_) AllReadyH.nil
        go_simp
        go_wp2_with (go_at_call 55; (with_reducible refine HA.out.mono ?_); rintro ez w6 ⟨rfl, hB2, hz6⟩)
        refine hK.out _ _ ((HKEEP.out _ hB2)) (fun hHeld => ?_)
        clear hK K
        refine tkq 9 (some 15) (v := ?_) rfl (Or.inl ⟨by rfl, ?_⟩) (by assumption) ?_
        rotate_left
        · intro w hSw; (try dsimp only at hSw); go_simp; first | done | (with_reducible rfl)
        simp only [Act.put, List.setIfInBounds_toArray, List.set_cons_zero, List.set_cons_succ]
        refine tkq 10 (some 25) (v := ?_) rfl (Or.inl ⟨by rfl, ?_⟩) (by assumption) ?_
        rotate_left
        · intro w hSw; (try dsimp only at hSw); go_simp; first | done | (with_reducible rfl)
        simp only [Act.put, List.setIfInBounds_toArray, List.set_cons_zero, List.set_cons_succ]
        refine tkq 11 (some 26) (v := ?_) rfl (Or.inl ⟨by rfl, ?_⟩) (by assumption) ?_
        rotate_left
        · intro w hSw; (try dsimp only at hSw); go_simp; first | done | (with_reducible rfl)
        simp only [Act.put, List.setIfInBounds_toArray, List.set_cons_zero, List.set_cons_succ]
        refine wpAnyH_ready (rs := [13]) (by kernel_rfl) (by simp) ?_
        refine AllReadyH.cons rfl (fun K hK => ?_) AllReadyH.nil
        refine step_st_any (by rfl) (Y.heap.size) 89 [.int .u64 0, .int .u64 0] [.int .u64 0, .int .u64 0] (by rfl) (by rfl) hz6 rfl (by kernel_rfl) (by rfl) ?_
        intro w8 hAn hkn
        have hb8 := hkn.below hB2 hB2.size (fun j hj => by rw [hj]; exact HYS.out)
        refine hK.out _ _ ((HKEEP.out _ hb8)) (fun hHeld => ?_)
        clear hK K
        refine tkq 14 (some 10) (v := ?_) rfl (Or.inl ⟨by rfl, ?_⟩) (by assumption) ?_
        rotate_left
        · intro w hSw; (try dsimp only at hSw); go_simp; first | done | (with_reducible rfl)
        simp only [Act.put, List.setIfInBounds_toArray, List.set_cons_zero, List.set_cons_succ]
        refine wpAnyH_done (by kernel_rfl) ?_ _
        obtain ⟨z1, z2, z3, z4, z5, z6⟩ := HEY.out w8 hb8
        generalize S.en = en at *
        generalize S.ea = ea at *
        cases fin
        · have HZ := Lib.hid (z1 (by simp))
          clear z1 z2 HEY
          go_wp2
          go_end0
          exact HZ.out
        · cases en
          · have HZ := Lib.hid (z1 (by simp))
            clear z1 z2 HEY
            go_wp2
            go_end0
            exact HZ.out
          · cases ea
            · have HZ := Lib.hid (z2 (by simp))
              clear z1 z2 HEY
              go_wp2
              go_end0
              exact HZ.out
            · have HZ := Lib.hid (z1 (by simp))
              clear z1 z2 HEY
              go_wp2
              go_end0
              exact HZ.out
    · rw [hV] at HA HB
      have HAD := Lib.hid (fun Y gg hB hA hg => HADD.out wr Y f g gg a e hF.out hlf hfa hae heh h1 h2 hB hA hg)
      have HCY := Lib.hid (fun Y hB => HC.out Y f g (hF.out.below hB))
      clear hV h1 h2 hF HE HADD HC HGA HGB HX HGC hXz HT
      go_wp2_with fail
      obtain ⟨Y, hY⟩ : ∃ x, wr.drew = x := ⟨_, rfl⟩
      rw [hY] at HA HB HDZ
      have HYS : Hid (wr.heap.size ≤ Y.heap.size) := Lib.hid (by rw [← hY]; exact Nat.le_refl _)
      refine wp_region_held_drew (S := (fun W => W.cell? ⟨g, 0, none⟩ = some (.int .u64 f) ∧ W.cell? ⟨g, 1, none⟩ = some (.int .u64 hi) ∧ W.cell? ⟨p, 3, none⟩ = some (.pointer (some ⟨pa, 0, none⟩)))) (by kernel_rfl) (⟨r0, r1, r3⟩) (fun hHeld => ?_)
      rw [hY] at hHeld ⊢
      clear hY
      refine tkq 0 (some 16) (v := ?_) rfl (Or.inl ⟨by rfl, ?_⟩) (by assumption) ?_
      rotate_left
      · intro w hSw; (try dsimp only at hSw); go_simp; first | done | (with_reducible rfl)
      simp only [Act.put, List.setIfInBounds_toArray, List.set_cons_zero, List.set_cons_succ]
      refine tkq 1 (some 17) (v := ?_) rfl (Or.inl ⟨by rfl, ?_⟩) (by assumption) ?_
      rotate_left
      · intro w hSw; (try dsimp only at hSw); go_simp; first | done | (with_reducible rfl)
      simp only [Act.put, List.setIfInBounds_toArray, List.set_cons_zero, List.set_cons_succ]
      refine tkq 2 (some 18) (v := ?_) rfl (Or.inl ⟨by rfl, ?_⟩) (by assumption) ?_
      rotate_left
      · intro w hSw; (try dsimp only at hSw); go_simp; first | done | (with_reducible rfl)
      simp only [Act.put, List.setIfInBounds_toArray, List.set_cons_zero, List.set_cons_succ]
      refine tkq 3 (some 19) (v := ?_) rfl (Or.inl ⟨by rfl, ?_⟩) (by assumption) ?_
      rotate_left
      · intro w hSw; (try dsimp only at hSw); go_simp; first | done | (with_reducible rfl)
      simp only [Act.put, List.setIfInBounds_toArray, List.set_cons_zero, List.set_cons_succ]
      refine tkq 4 (some 20) (v := ?_) rfl (Or.inl ⟨by rfl, ?_⟩) (by assumption) ?_
      rotate_left
      · intro w hSw; (try dsimp only at hSw); go_simp; first | done | (with_reducible rfl)
      simp only [Act.put, List.setIfInBounds_toArray, List.set_cons_zero, List.set_cons_succ]
      refine tkq 5 (some 21) (v := ?_) rfl (Or.inl ⟨by rfl, ?_⟩) (by assumption) ?_
      rotate_left
      · intro w hSw; (try dsimp only at hSw); go_simp; first | done | (with_reducible rfl)
      simp only [Act.put, List.setIfInBounds_toArray, List.set_cons_zero, List.set_cons_succ]
      refine tkq 6 (some 22) (v := ?_) rfl (Or.inl ⟨by rfl, ?_⟩) (by assumption) ?_
      rotate_left
      · intro w hSw; (try dsimp only at hSw); go_simp; first | done | (with_reducible rfl)
      simp only [Act.put, List.setIfInBounds_toArray, List.set_cons_zero, List.set_cons_succ]
      refine tkq 7 (some 23) (v := ?_) rfl (Or.inl ⟨by rfl, ?_⟩) (by assumption) ?_
      rotate_left
      · intro w hSw; (try dsimp only at hSw); go_simp; first | done | (with_reducible rfl)
      simp only [Act.put, List.setIfInBounds_toArray, List.set_cons_zero, List.set_cons_succ]
      refine wpAnyH_ready (rs := [8, 12]) (by kernel_rfl) (by simp) ?_
      refine AllReadyH.cons rfl (fun K hK => ?_) (AllReadyH.cons rfl (fun K hK => ?_) (AllReadyH.nil))
      · go_simp
        go_wp2_with (go_at_call 55; (with_reducible refine HB.out.mono ?_); rintro ez w6 ⟨rfl, hB2⟩)
        refine hK.out _ _ ((HKEEP.out _ hB2)) (fun hHeld => ?_)
        clear hK K
        refine tkq 9 (some 15) (v := ?_) rfl (Or.inl ⟨by rfl, ?_⟩) (by assumption) ?_
        rotate_left
        · intro w hSw; (try dsimp only at hSw); go_simp; first | done | (with_reducible rfl)
        simp only [Act.put, List.setIfInBounds_toArray, List.set_cons_zero, List.set_cons_succ]
        refine tkq 10 (some 25) (v := ?_) rfl (Or.inl ⟨by rfl, ?_⟩) (by assumption) ?_
        rotate_left
        · intro w hSw; (try dsimp only at hSw); go_simp; first | done | (with_reducible rfl)
        simp only [Act.put, List.setIfInBounds_toArray, List.set_cons_zero, List.set_cons_succ]
        refine tkq 11 (some 26) (v := ?_) rfl (Or.inl ⟨by rfl, ?_⟩) (by assumption) ?_
        rotate_left
        · intro w hSw; (try dsimp only at hSw); go_simp; first | done | (with_reducible rfl)
        simp only [Act.put, List.setIfInBounds_toArray, List.set_cons_zero, List.set_cons_succ]
        refine wpAnyH_ready (rs := [12]) (by kernel_rfl) (by simp) ?_
        refine AllReadyH.cons rfl (fun K hK => ?_) AllReadyH.nil
        go_simp
        go_wp2_with (fail)
        refine hK.out _ _ ((HKEEP.out _ (hB2.alloc hB2.size _))) (fun hHeld => ?_)
        clear hK K
        refine wpAnyH_ready (rs := [13]) (by kernel_rfl) (by simp) ?_
        refine AllReadyH.cons rfl (fun K hK => ?_) AllReadyH.nil
        refine step_st_any (by rfl) (w6.heap.size) 89 [.int .u64 0, .int .u64 0] [.int .u64 a, .int .u64 e] (by rfl) (by rfl) (At.new w6 89 [.int .u64 0, .int .u64 0]) rfl (by kernel_rfl) (by rfl) ?_
        intro w8 hAn hkn
        have hb8 := hkn.below (hB2.alloc hB2.size (.cells #[.int .u64 0, .int .u64 0] 89)) (Nat.le_trans hB2.size (by simp)) (fun j hj => by rw [hj]; exact hB2.size)
        refine hK.out _ _ ((HKEEP.out _ hb8)) (fun hHeld => ?_)
        clear hK K
        refine tkq 14 (some 10) (v := ?_) rfl (Or.inl ⟨by rfl, ?_⟩) (by assumption) ?_
        rotate_left
        · intro w hSw; (try dsimp only at hSw); go_simp; first | done | (with_reducible rfl)
        simp only [Act.put, List.setIfInBounds_toArray, List.set_cons_zero, List.set_cons_succ]
        refine wpAnyH_done (by kernel_rfl) ?_ _
        obtain ⟨y0, y1, y3, y4⟩ := HCY.out w8 hb8
        have x0 := hAn.cell 0
        have x1 := hAn.cell 1
        simp only [List.getElem?_cons_zero, List.getElem?_cons_succ] at x0 x1
        have HAY := Lib.hid (HAD.out w8 _ hb8 hAn hB2.size)
        go_wp2
        go_still_tail 8, (by kernel_rfl)
        change wpList _ _ _ _ _ (World.drew w8)
        generalize World.drew w8 = Y2 at HAY ⊢
        go_wp2_with (go_at_call 52; (with_reducible refine HAY.out.mono ?_); rintro ez w4 ⟨⟨x, rfl⟩, u1, u2, u3, hz4⟩)
        go_roundg (hi - e)
        case measure => omega
        case rel => exact ⟨e, by omega, heh, Nat.le_refl _, hz4⟩
      · go_simp
        go_wp2_with (fail)
        refine hK.out _ _ ((HKEEP.out _ HDZ.out)) (fun hHeld => ?_)
        clear hK K
        refine wpAnyH_ready (rs := [8]) (by kernel_rfl) (by simp) ?_
        refine AllReadyH.cons rfl (fun K hK => ?_) AllReadyH.nil
        go_simp
        go_wp2_with (go_at_call 55; (with_reducible refine HA.out.mono ?_); rintro ez w6 ⟨rfl, hB2, hz6⟩)
        refine hK.out _ _ ((HKEEP.out _ hB2)) (fun hHeld => ?_)
        clear hK K
        refine tkq 9 (some 15) (v := ?_) rfl (Or.inl ⟨by rfl, ?_⟩) (by assumption) ?_
        rotate_left
        · intro w hSw; (try dsimp only at hSw); go_simp; first | done | (with_reducible rfl)
        simp only [Act.put, List.setIfInBounds_toArray, List.set_cons_zero, List.set_cons_succ]
        refine tkq 10 (some 25) (v := ?_) rfl (Or.inl ⟨by rfl, ?_⟩) (by assumption) ?_
        rotate_left
        · intro w hSw; (try dsimp only at hSw); go_simp; first | done | (with_reducible rfl)
        simp only [Act.put, List.setIfInBounds_toArray, List.set_cons_zero, List.set_cons_succ]
        refine tkq 11 (some 26) (v := ?_) rfl (Or.inl ⟨by rfl, ?_⟩) (by assumption) ?_
        rotate_left
        · intro w hSw; (try dsimp only at hSw); go_simp; first | done | (with_reducible rfl)
        simp only [Act.put, List.setIfInBounds_toArray, List.set_cons_zero, List.set_cons_succ]
        refine wpAnyH_ready (rs := [13]) (by kernel_rfl) (by simp) ?_
        refine AllReadyH.cons rfl (fun K hK => ?_) AllReadyH.nil
        refine step_st_any (by rfl) (Y.heap.size) 89 [.int .u64 0, .int .u64 0] [.int .u64 a, .int .u64 e] (by rfl) (by rfl) hz6 rfl (by kernel_rfl) (by rfl) ?_
        intro w8 hAn hkn
        have hb8 := hkn.below hB2 hB2.size (fun j hj => by rw [hj]; exact HYS.out)
        refine hK.out _ _ ((HKEEP.out _ hb8)) (fun hHeld => ?_)
        clear hK K
        refine tkq 14 (some 10) (v := ?_) rfl (Or.inl ⟨by rfl, ?_⟩) (by assumption) ?_
        rotate_left
        · intro w hSw; (try dsimp only at hSw); go_simp; first | done | (with_reducible rfl)
        simp only [Act.put, List.setIfInBounds_toArray, List.set_cons_zero, List.set_cons_succ]
        refine wpAnyH_done (by kernel_rfl) ?_ _
        obtain ⟨y0, y1, y3, y4⟩ := HCY.out w8 hb8
        have x0 := hAn.cell 0
        have x1 := hAn.cell 1
        simp only [List.getElem?_cons_zero, List.getElem?_cons_succ] at x0 x1
        have HAY := Lib.hid (HAD.out w8 _ hb8 hAn HYS.out)
        go_wp2
        go_still_tail 8, (by kernel_rfl)
        change wpList _ _ _ _ _ (World.drew w8)
        generalize World.drew w8 = Y2 at HAY ⊢
        go_wp2_with (go_at_call 52; (with_reducible refine HAY.out.mono ?_); rintro ez w4 ⟨⟨x, rfl⟩, u1, u2, u3, hz4⟩)
        go_roundg (hi - e)
        case measure => omega
        case rel => exact ⟨e, by omega, heh, Nat.le_refl _, hz4⟩
end
section
set_option linter.unusedVariables false
open Go.RowKit
theorem bytes_inj : ∀ (ds ds' : List Int), Byt ds → Byt ds' → (ds.map fun n => UInt8.ofNat n.toNat) = (ds'.map fun n => UInt8.ofNat n.toNat) → ds = ds'
  | [], [], _, _, _ => rfl
  | [], _ :: _, _, _, h => by simp at h
  | _ :: _, [], _, _, h => by simp at h
  | x :: xs, y :: ys, hx, hy, h => by
    simp only [List.map_cons, List.cons.injEq] at h
    obtain ⟨h1, h2⟩ := h
    have e := bytes_inj xs ys (fun z hz => hx z (by simp [hz])) (fun z hz => hy z (by simp [hz])) h2
    have a := hx x (by simp)
    have b := hy y (by simp)
    have c : (UInt8.ofNat x.toNat).toNat = (UInt8.ofNat y.toNat).toNat := by rw [h1]
    simp only [UInt8.toNat_ofNat'] at c
    rw [Nat.mod_eq_of_lt (by omega), Nat.mod_eq_of_lt (by omega)] at c
    rw [e, show x = y by omega]
theorem str_ne (ds ds' : List Int) (h : Byt ds) (h' : Byt ds') (n : ds ≠ ds') : (strOfNums ds == strOfNums ds') = false := by
  rw [beq_toListBytes, beq_eq_false_iff_ne]
  intro e
  rw [ByteArray.toList_eq, ByteArray.toList_eq] at e
  exact n (bytes_inj ds ds' h h' (by simpa [strOfNums] using e))
end
end Go.Proofs.YtbejpafephofaaaGreat
