/-
  frame.Decode, frame.All, whatever bytes.
-/
import Derived.Test.YtcobcgbpmkpljaaEat
import Derived.Deep.LoopGhost
import Derived.IntWalk
namespace Go.Proofs.Ytcobcgbpmkpljaa
set_option linter.unusedVariables false
set_option linter.unusedSimpArgs false
open Go.RowKit
/-- A whole frame's store, in a region that draws its order. -/
theorem step_st_at {ops : Array Oper} {a : Act} {w : World} {K : Act → World → Prop} {Q : Exit → Act → World → Prop} {E : Prop} {dst : Option Tmp} {x y : Operand} {t : TypeId} {pos : String} {after : Array Edge} {g : Option (Nat × Bool)}
    (hg : Region.wanted ⟨dst, .store 31 x y, t, pos, after, g⟩ (yielded ops a.tmps) = true) (p : Nat) (l l' : List Value) (hx : a.eval x = .pointer (some ⟨p, 0, none⟩)) (hy : a.eval y = .agg l'.toArray) (hA : At w p 31 l) (hl : l.length = 19) (hl' : l'.length = 19) (h1 : l'.all (·.oneCell') = true)
    (h : ∀ w', At w' p 31 l' → Kept (· = p) w w' → K (a.put dst undef) w') :
    if Region.wanted ⟨dst, .store 31 x y, t, pos, after, g⟩ (yielded ops a.tmps) = true then Oper.wp Try.prog ⟨dst, .store 31 x y, t, pos, after, g⟩ a w K Q else E := by
  rw [if_pos hg]
  refine wp_store_mid _ x y rfl p 0 l'.toArray hx hy (by simpa using hA.there _ (by omega)) (by simp [hl', fr_info]) (by simpa using h1) ?_
  have := At.setFrom l' l 0 w hA
  rw [setFrom_all l l' (hl.trans hl'.symm)] at this
  exact h _ (by simpa using this) (by simpa using Kept.setCells (S := (· = p)) rfl l' 0 w (Kept.refl _ _))
def DecPost (bs : List Int) (w : World) (e : Ending) (w' : World) : Prop :=
  (match readO (bs, false) with
  | none => e = .returned (.tuple #[frV (FN.zero 0) .nil .nil, .int .i64 0, .int .i64 12])
  | some x => ∃ d r, e = .returned (.tuple #[frV x.1 d r, .int .i64 ((bs.length : Int) - x.2.2.2.1.length), .int .i64 0]) ∧ Fits w' (fun b => w.heap.size ≤ b) x.1 d r x.2.1 x.2.2.1) ∧ Below w.heap.size w w'
theorem DecPost.no {bs : List Int} {w w' : World} (h : readO (bs, false) = none) (hb : Below w.heap.size w w') : DecPost bs w (.returned (.tuple #[frV (FN.zero 0) .nil .nil, .int .i64 0, .int .i64 12])) w' := by
  unfold DecPost; rw [h]; exact ⟨rfl, hb⟩
theorem DecPost.yes {bs : List Int} {w w' : World} {m : FN} {ds : List Int} {rs : RS} {s' : St} {d r : Sl} (h : readO (bs, false) = some (m, ds, rs, s')) (hf : Fits w' (fun b => w.heap.size ≤ b) m d r ds rs) (hb : Below w.heap.size w w') : DecPost bs w (.returned (.tuple #[frV m d r, .int .i64 ((bs.length : Int) - s'.1.length), .int .i64 0])) w' := by
  unfold DecPost; rw [h]; exact ⟨⟨d, r, rfl, hf⟩, hb⟩
set_option maxRecDepth 100000 in
set_option maxHeartbeats 1000000 in
theorem decode_any (A : Option Addr) (n c : Nat) (bs : List Int) (w : World) (hr : Rd w w.heap.size A n bs) (hn : n ≤ 100000000000000) (hA : A = none → c = 0) :
    Calls Try.prog 23 #[.slice A n c] w (DecPost bs w) := by
  have HL := Lib.hid hr.1
  have hby := hr.2.1
  have hB0 : Below w.heap.size w (w.alloc (.cells (frL (FN.zero 0) .nil .nil).toArray 31)) := (Below.refl _ _).alloc (Nat.le_refl _) _
  have hA0 : At (w.alloc (.cells (frL (FN.zero 0) .nil .nil).toArray 31)) w.heap.size 31 (frL (FN.zero 0) .nil .nil) := At.new w _ _
  have hR0 : Rd (w.alloc (.cells (frL (FN.zero 0) .nil .nil).toArray 31)) (w.alloc (.cells (frL (FN.zero 0) .nil .nil).toArray 31)).heap.size A n bs := (hr.below hB0).more hB0.size
  have hs0 : (w.alloc (.cells (frL (FN.zero 0) .nil .nil).toArray 31)).heap.size = w.heap.size + 1 := by simp
  go_enter Try.func23, Try.ntmps23
  go_wp2_with fail
  refine (of_any A n c bs _ hR0 (by omega) hA).mono ?_
  rintro e w1 ⟨p, rfl, hp, hr1, hb1⟩
  have hA1 := hA0.below hb1 (by omega)
  have hB1 := hB0.trans (hb1.mono hB0.size)
  have hs1 := hb1.size
  rw [hs0] at hp hr1 hs1
  have hpl : p < w1.heap.size := by obtain ⟨_, _, _, h, _⟩ := hr1; exact h.lt
  clear hb1 hA0 hB0 hR0 hs0
  go_wp2_with fail
  refine (read_any p _ _ (bs, false) w1 hr1 (fun b hb => by omega) (by rw [HL.out]; exact hn)).mono ?_
  intro e w2 hpost
  unfold ReadPost at hpost
  cases hro : readO (bs, false) with
  | none =>
    rw [hro] at hpost
    obtain ⟨rfl, hk2⟩ := hpost
    have HNO := Lib.hid hro
    have hA2 := hA1.kept hk2 (by omega)
    have hB2 := hk2.below hB1 (by omega) (fun j hj => by omega)
    obtain ⟨LZ, hLZ⟩ : ∃ L, frL (FN.zero 0) .nil .nil = L := ⟨_, rfl⟩
    have hLl : LZ.length = 19 := by rw [← hLZ]; rfl
    have hone : LZ.all (·.oneCell') = true := by rw [← hLZ]; rfl
    have hfv : frV (FN.zero 0) .nil .nil = .agg LZ.toArray := by rw [← hLZ]; rfl
    have HLl := Lib.hid hLl
    have HO := Lib.hid hone
    have HFV := Lib.hid hfv
    have HLZ := Lib.hid hLZ
    rw [hfv]
    clear hro hk2 hLZ hLl hone hfv
    go_wp2_with (first | ((with_reducible refine at_st (x := .tmp 6) ?_); refine st_top _ _ LZ (by rfl) _ (by rfl) (by simp) (by rfl) (by rfl) HLl.out HO.out ?_) | ((with_reducible refine at_st (x := .tmp 2) ?_); refine st_at _ _ (frL (FN.zero 0) .nil .nil) (by rfl) (by rfl) (hA2.alloc _) (by rfl) (by rfl) (by rfl) ?_; intro w9 hA9 hk9) | fail)
    refine bodyPost_ret (results_cell_tmp2 2 3 4 31 (by rfl) _ 31 _ _ _ _ (by rfl) (by rfl) (by rfl) hA9 Try.underlying31 rfl fr_info) rfl ?_
    exact DecPost.no HNO.out (hk9.below (hB2.alloc (by have := hB2.size; omega) _) (by have := hB2.size; simp; omega) (fun j hj => by omega))
  | some x =>
    obtain ⟨m, ds, rs, s'⟩ := x
    rw [hro] at hpost
    obtain ⟨d, r, rfl, hf2, hr2, hk2⟩ := hpost
    simp only at hf2 hr2
    have HYES := Lib.hid hro
    obtain ⟨_, _, _, k, k1, k2, k3⟩ := readO_eats (bs, false) hby m ds rs s' hro
    simp only at k2 k3
    have hlen' : s'.1.length ≤ n := by rw [k3, List.length_drop, HL.out]; omega
    have hA2 := hA1.kept hk2 (by omega)
    have hB2 := hk2.below hB1 (by omega) (fun j hj => by omega)
    obtain ⟨LF, hLF⟩ : ∃ L, frL m d r = L := ⟨_, rfl⟩
    have hLl : LF.length = 19 := by rw [← hLF]; rfl
    have hone : LF.all (·.oneCell') = true := by rw [← hLF]; rfl
    have hfv : frV m d r = .agg LF.toArray := by rw [← hLF]; rfl
    have HLl := Lib.hid hLl
    have HO := Lib.hid hone
    have HFV := Lib.hid hfv
    rw [hfv]
    have hs2 := hk2.size
    obtain ⟨N', hN'⟩ : ∃ x, s'.1.length = x := ⟨_, rfl⟩
    rw [hN'] at hlen'
    have HN' := Lib.hid hN'
    clear hro hk2 hLF hLl hone hfv k1 k2 k3 hN'
    have hwA := hA2.alloc (.cells LF.toArray 31)
    have hw6 := At.new w2 31 LF
    have hrA := hr2.kept (((Kept.refl (fun _ => False) w2).alloc (.cells LF.toArray 31))) (fun h => h) (fun _ _ h => h)
    have hBA := hB2.alloc (by omega) (.cells LF.toArray 31)
    have hFA := hf2.below ((Below.refl _ _).alloc (Nat.le_refl _) (.cells LF.toArray 31))
    go_wp2_with (first | ((with_reducible refine at_st (x := .tmp 6) ?_); refine st_top _ _ LF (by rfl) _ (by rfl) (by simp) (by rfl) (by rfl) HLl.out HO.out ?_) | fail)
    obtain ⟨wA, hwA'⟩ : ∃ x, w2.alloc (.cells LF.toArray 31) = x := ⟨_, rfl⟩
    rw [hwA'] at hwA hw6 hrA hBA hFA ⊢
    have hsA : w2.heap.size < wA.heap.size := hw6.lt
    clear hwA'
    have hwA := hwA.drew
    have hw6 := hw6.drew
    have hrA : Rdr wA.drew p 108 (fun b => w.heap.size + 1 ≤ b ∧ b < p) s' := hrA

    refine wp_region_held_drew (S := (fun w' => w'.rangeAt w2.heap.size 0 LF)) (by kernel_rfl) (hw6.rangeAt) (fun hHeld => ?_)
    refine take_dst (i := 0) (dst := some 18) rfl rfl (by kernel_rfl) (by kernel_rfl) (by kernel_rfl) (fun _ _ _ h => h) (v := ?_) ?_ (by assumption) ?_
    rotate_left
    · refine yl_fr ?ylx0 ?ylo0 ?ylb0 ?ylp0 ?ylL0 ?ylS0 ?yll0 ?ylw0
      case ylo0 => rfl
      case ylp0 => rfl
      case ylS0 => intro w hSw; (try dsimp only at hSw); go_split_ands; assumption
      case yll0 => first | rfl | exact HLl.out
      case ylw0 => rfl
    simp only [Act.put, List.setIfInBounds_toArray, List.set_cons_zero, List.set_cons_succ]
    refine take_dst (i := 1) (dst := some 19) rfl rfl (by kernel_rfl) (by kernel_rfl) (by kernel_rfl) (fun _ _ _ h => h) (v := ?_) (Or.inl ⟨by rfl, ?_⟩) (by assumption) ?_
    rotate_left
    · intro w hSw; (try dsimp only at hSw); go_simp; first | done | (with_reducible rfl)
    simp only [Act.put, List.setIfInBounds_toArray, List.set_cons_zero, List.set_cons_succ]
    refine take_dst (i := 2) (dst := some 20) rfl rfl (by kernel_rfl) (by kernel_rfl) (by kernel_rfl) (fun _ _ _ h => h) (v := ?_) (Or.inl ⟨by rfl, ?_⟩) (by assumption) ?_
    rotate_left
    · intro w hSw; (try dsimp only at hSw); go_simp; first | done | (with_reducible rfl)
    simp only [Act.put, List.setIfInBounds_toArray, List.set_cons_zero, List.set_cons_succ]
    refine take_dst (i := 3) (dst := some 21) rfl rfl (by kernel_rfl) (by kernel_rfl) (by kernel_rfl) (fun _ _ _ h => h) (v := ?_) (Or.inl ⟨by rfl, ?_⟩) (by assumption) ?_
    rotate_left
    · intro w hSw; (try dsimp only at hSw); go_simp; first | done | (with_reducible rfl)
    simp only [Act.put, List.setIfInBounds_toArray, List.set_cons_zero, List.set_cons_succ]
    refine wpAnyH_ready (rs := [4]) (by kernel_rfl) (by simp) ?_
    refine AllReadyH.cons rfl (fun K hK => ?_) AllReadyH.nil
    go_simp
    go_wp2_with ((go_at_call 44; refine (left_any p _ _ s' _ hrA).mono ?_; rintro e w3 ⟨rfl, rfl⟩))
    refine hK.out _ _ (hHeld) (fun hHeld => ?_)
    clear hK K
    rw [HN'.out]
    have hwr : IntKind.i64.wrap ((n : Int) - (N' : Int)) = n - N' := IntWalk.i64_in _ (by omega)
    refine take_dst (i := 5) (dst := some 23) rfl rfl (by kernel_rfl) (by kernel_rfl) (by kernel_rfl) (fun _ _ _ h => h) (v := ?_) (Or.inl ⟨by rfl, ?_⟩) (by assumption) ?_
    rotate_left
    · intro w hSw; (try dsimp only at hSw); go_simp; first | done | (with_reducible rfl)
    simp only [Act.put, List.setIfInBounds_toArray, List.set_cons_zero, List.set_cons_succ]
    refine wpAnyH_ready (rs := [6]) (by kernel_rfl) (by simp) ?_
    refine AllReadyH.cons rfl (fun K hK => ?_) AllReadyH.nil
    refine step_st_at (by rfl) w.heap.size (frL (FN.zero 0) .nil .nil) LF (by rfl) (by rfl) hwA (by rfl) HLl.out HO.out ?_
    intro w4 hA4 hk4
    have hw64 := hw6.kept hk4 (by omega)
    refine hK.out _ _ hw64.rangeAt (fun hHeld => ?_)
    clear hK K hwr
    refine take_dst (i := 7) (dst := some 3) rfl rfl (by kernel_rfl) (by kernel_rfl) (by kernel_rfl) (fun _ _ _ h => h) (v := ?_) (Or.inl ⟨by rfl, ?_⟩) (by assumption) ?_
    rotate_left
    · intro w hSw; (try dsimp only at hSw); go_simp; first | done | (with_reducible rfl)
    simp only [Act.put, List.setIfInBounds_toArray, List.set_cons_zero, List.set_cons_succ]
    refine take_dst (i := 8) (dst := some 4) rfl rfl (by kernel_rfl) (by kernel_rfl) (by kernel_rfl) (fun _ _ _ h => h) (v := ?_) (Or.inl ⟨by rfl, ?_⟩) (by assumption) ?_
    rotate_left
    · intro w hSw; (try dsimp only at hSw); go_simp; first | done | (with_reducible rfl)
    simp only [Act.put, List.setIfInBounds_toArray, List.set_cons_zero, List.set_cons_succ]
    refine wpAnyH_done (by kernel_rfl) ?_ _
    go_wp2_with fail
    refine bodyPost_ret (results_cell_tmp2 2 3 4 31 (by rfl) _ 31 _ _ _ _ (by rfl) (by rfl) (by rfl) hA4 Try.underlying31 rfl (by rw [HLl.out]; exact fr_info)) rfl ?_
    have hfin := DecPost.yes HYES.out ((hFA.kept (S := (· = w.heap.size)) hk4.from_drew (fun b hb e => by omega)).mono (fun b _ hb => by omega)) (hk4.below (below_drew hBA) (by show w.heap.size ≤ wA.heap.size; omega) (fun j hj => by omega))
    rw [HFV.out, HL.out, HN'.out] at hfin
    exact hfin
/-- What All's loop keeps. -/
structure AllL (w : World) (p : Nat) (s0 : St) (tot : Option (List FD)) (gk : Nat) (v : Value) (wr : World) (s : St) (L : List FR) : Prop where
  rd : Rdr wr p 108 (fun b => w.heap.size ≤ b ∧ b < p) s
  own : OwnF wr (p + 1) v L
  ft : ∀ x ∈ L, Fits wr (fun b => p < b ∧ v.ownBlock ≠ some b) x.m x.d x.r x.ds x.rs
  bl : Below w.heap.size w wr
  eq : tot = (allO gk s).map (L.map FR.fd ++ ·)
  lt : s.1.length < gk
  ps : p < wr.heap.size
  pw : w.heap.size ≤ p
  ln : L.length + s.1.length ≤ s0.1.length
def AllPost (bs : List Int) (w : World) (e : Ending) (w' : World) : Prop :=
  (match allO (bs.length + 1) (bs, false) with
  | none => e = .returned (.tuple #[.slice none 0 0, .int .i64 12])
  | some l => ∃ A n c L, e = .returned (.tuple #[.slice A n c, .int .i64 0]) ∧ FrsP w' (fun b => w.heap.size ≤ b) A n L ∧ n ≤ c ∧ c ≤ maxLen ∧ L.map FR.fd = l) ∧ Below w.heap.size w w'
theorem AllPost.no {bs : List Int} {w w' : World} (h : allO (bs.length + 1) (bs, false) = none) (hb : Below w.heap.size w w') : AllPost bs w (.returned (.tuple #[.slice none 0 0, .int .i64 12])) w' := by
  unfold AllPost; rw [h]; exact ⟨rfl, hb⟩
theorem AllPost.yes {bs : List Int} {w w' : World} {A : Option Addr} {n c : Nat} {L : List FR} (h : allO (bs.length + 1) (bs, false) = some (L.map FR.fd)) (hf : FrsP w' (fun b => w.heap.size ≤ b) A n L) (hn : n ≤ c) (hc : c ≤ maxLen) (hb : Below w.heap.size w w') : AllPost bs w (.returned (.tuple #[.slice A n c, .int .i64 0])) w' := by
  unfold AllPost; rw [h]; exact ⟨⟨A, n, c, L, rfl, hf, hn, hc, rfl⟩, hb⟩
end Go.Proofs.Ytcobcgbpmkpljaa
