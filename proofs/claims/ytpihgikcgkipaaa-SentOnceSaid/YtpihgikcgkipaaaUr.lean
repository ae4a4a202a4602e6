/-
  The document's ledger: Take.
-/
import Derived.Test.YtpihgikcgkipaaaUn
namespace Go.Proofs.Ytpihgikcgkipaaa
set_option linter.unusedVariables false
set_option linter.unusedSimpArgs false
open Go.RowKit
def RTakePost (base q : Nat) (nx ak : Int) (hd : Bool) (v : Value) (l : PL) (x : Int) (w : World) (e : Ending) (w' : World) : Prop :=
  (∃ i r, l[i]? = some r ∧ r.n = x ∧ e = .returned (.tuple #[.agg (pkC r).toArray, .bool true]) ∧ ∃ v', RV w' base q nx ak hd v' (l.take i ++ l.drop (i + 1)) ∧ Kept (· = q) w w' ∧ ∀ j, v'.ownBlock = some j → w.heap.size ≤ j) ∨
  ((∀ r ∈ l, r.n ≠ x) ∧ e = .returned (.tuple #[.agg (pkC PK.zero).toArray, .bool false]) ∧ Below w.heap.size w w')
theorem rtake_end {base q : Nat} {nx ak : Int} {hd : Bool} {l : PL} {w w5 w9 : World} {i n : Nat} {v0 v5 : Value} {L : List Value} (hB : Below w.heap.size w w5) (hq : At w5 q 28 [v0, .int .u64 nx, .int .u64 ak, .bool hd]) (ho : OwnG w5 base v5 n ((plC l).take (i * 5) ++ (plC l).drop ((i + 1) * 5))) (hn : n = (l.take i ++ l.drop (i + 1)).length) (hb : base ≤ q)
    (hv : ∀ j, v5.ownBlock = some j → w.heap.size < j) (hZ : At w9 w.heap.size 31 L) (hK9 : Kept (· = w.heap.size) (w5.setCell ⟨q, 0, none⟩ v5) w9) (hq0 : q < w.heap.size) :
    RV w9 base q nx ak hd v5 (l.take i ++ l.drop (i + 1)) ∧ Kept (· = q) w w9 ∧ ∀ j, v5.ownBlock = some j → w.heap.size ≤ j := by
  have hk3 : Kept (· = q) w5 (w5.setCell ⟨q, 0, none⟩ v5) := (Kept.refl _ _).setAt _ _
  have ho2 : OwnP w5 base v5 (l.take i ++ l.drop (i + 1)) := by
    show OwnG w5 base v5 (l.take i ++ l.drop (i + 1)).length (plC (l.take i ++ l.drop (i + 1)))
    rw [← hn, plC_app, plC_take, plC_drop]
    exact ho
  refine ⟨⟨(hq.set 0 v5).kept hK9 (by omega), ownG_kept (ownG_kept ho2 hk3 (fun j hj e => by have := hv j hj; omega)) hK9 (fun j hj e => by have := hv j hj; omega), hb⟩, ?_, fun j hj => Nat.le_of_lt (hv j hj)⟩
  have h1 : Kept (· = q) w w5 := Kept.of_below hB _
  exact (h1.trans hk3).trans' hK9 (fun j hj => .inr (by omega))
section
variable {base q : Nat} {nx ak : Int} {hd : Bool} {v : Value} {l : PL} {w : World}
set_option maxRecDepth 100000 in
set_option maxHeartbeats 8000000 in
theorem rtake_any (hs : RV w base q nx ak hd v l) (x : Int) (hn : l.length ≤ 64) :
    Calls Try.prog 22 #[.pointer (some ⟨q, 0, none⟩), .int .u64 x] w (RTakePost base q nx ak hd v l x w) := by
  have hbz : Below w.heap.size w (w.alloc (.cells #[.int .u64 0, .int .i64 0, .int .i64 0, .bool false, .slice none 0 0] 31)) := (Below.refl _ _).alloc (Nat.le_refl _) _
  have HZ := Lib.hid (At.new w 31 [.int .u64 0, .int .i64 0, .int .i64 0, .bool false, .slice none 0 0])
  have HBZ := Lib.hid hbz
  have HS := Lib.hid (hs.below hbz)
  have HS0 := Lib.hid hs
  have hq0 := hs.at_.lt
  obtain ⟨A, c, rfl, hnc, hcm⟩ := ownG_shape hs.own
  have lz : (w.alloc (.cells #[.int .u64 0, .int .i64 0, .int .i64 0, .bool false, .slice none 0 0] 31)).cell? ⟨q, 0, none⟩ = some (.slice A l.length c) := (hs.below hbz).at_.cell 0
  obtain ⟨n, hln⟩ : ∃ n, l.length = n := ⟨_, rfl⟩
  have HN := Lib.hid hln
  rw [hln] at hnc lz hn
  clear hs hbz hln
  go_enter Try.func22, Try.ntmps22
  go_wp2
  go_loopg [6] n (fun kx s6 wr => ∃ (i : Nat), s6 = .int .i64 i ∧ i ≤ n ∧ n - i ≤ kx ∧ wr = w.alloc (.cells #[.int .u64 0, .int .i64 0, .int .i64 0, .bool false, .slice none 0 0] 31) ∧ ∀ j r, j < i → l[j]? = some r → r.n ≠ x)
  case atStart => exact ⟨0, rfl, Nat.zero_le _, by omega, rfl, fun j r h => absurd h (by omega)⟩
  case round =>
    obtain ⟨i, rfl, hin, hkx, rfl, hno⟩ := hrel
    by_cases hlt : i < n
    · have hiz : (i : Int) < (n : Int) := by omega
      obtain ⟨r, hr⟩ : ∃ r, l[i]? = some r := ⟨_, List.getElem?_eq_getElem (by rw [HN.out]; exact hlt)⟩
      obtain ⟨g, c2, hgv, hbg, hglt, hpk⟩ := ownP_at HS.out.own hr
      injection hgv with e1 e2 e3
      subst e1; subst e3
      clear e2
      have cn := hpk.cn
      have HPK := Lib.hid hpk
      have HR := Lib.hid hr
      have HNO := Lib.hid hno
      clear hpk hr hno
      by_cases hx : r.n = x
      · have HX := Lib.hid hx
        have hxe := Lib.hid (show (r.n == x) = true by simp [hx])
        clear hx
        have hxe2 := hxe.out
        go_wp2_with (first | ((with_reducible refine at_ldp ?_); refine ld_pm g (i * 5) r (by rfl) HPK.out ?_) | ((with_reducible refine at_stp ?_); refine st_ptop _ _ r (by rfl) _ (by rfl) (by simp) (by rfl) (by rfl) ?_) | fail)
        clear hxe2
        obtain ⟨W, hW⟩ : ∃ W, w.alloc (.cells #[.int .u64 0, .int .i64 0, .int .i64 0, .bool false, .slice none 0 0] 31) = W := ⟨_, rfl⟩
        have hsz : w.heap.size + 1 = W.heap.size := by rw [← hW]; simp
        rw [hW] at HZ HBZ HS lz HPK ⊢
        have hax : Below W.heap.size W (W.alloc (.cells (pkC r).toArray 31)) := (Below.refl _ _).alloc (Nat.le_refl _) _
        have hX := At.new W 31 (pkC r)
        have hsX := HS.out.below hax
        have hZX := HZ.out.below hax HZ.out.lt
        have hBX := HBZ.out.trans (hax.mono HBZ.out.size)
        have hXs : (W.alloc (.cells (pkC r).toArray 31)).heap.size = W.heap.size + 1 := by simp
        obtain ⟨X, hXe⟩ : ∃ X, W.alloc (.cells (pkC r).toArray 31) = X := ⟨_, rfl⟩
        rw [hXe] at hX hsX hZX hBX hXs ⊢
        obtain ⟨gx, hgx⟩ : ∃ gx, W.heap.size = gx := ⟨_, rfl⟩
        rw [hsz, hgx]
        rw [hgx] at hX hXs hsz
        have l0 : X.cell? ⟨q, 0, none⟩ = some (.slice (some ⟨g, 0, none⟩) n c) := by have := hsX.at_.cell 0; rw [HN.out] at this; exact this
        have hqX := hsX.at_.lt
        have HSX := Lib.hid hsX
        have HXX := Lib.hid hX
        have HZX := Lib.hid hZX
        have HBX := Lib.hid hBX
        have HSZ := Lib.hid (And.intro hsz hXs)
        have hownX : OwnG X base (.slice (some ⟨g, 0, none⟩) n c) n (plC l) := by have := hsX.own; unfold OwnP at this; rw [HN.out] at this; exact this
        have HOX := Lib.hid hownX
        have HPL := Lib.hid (show (plC l).length = n * 5 by rw [plC_len, HN.out])
        have hbX : base ≤ X.heap.size := Nat.le_trans hsX.bq (Nat.le_of_lt hqX)
        have HBB := Lib.hid hbX
        have HNN := Lib.hid (show (l.take i ++ l.drop (i + 1)).length = i + (n - (i + 1)) by simp; have := HN.out; omega)
        clear hW hXe hgx hax hX hsX hZX hBX hXs hsz lz cn hownX hbX
        go_wp2_with fail
        simp only [Act.put]
        have hd0 : Below X.heap.size X X.drew := ⟨rfl, rfl, rfl, Nat.le_refl _, fun _ _ => rfl⟩
        have mixed : Try.prog.follows .mixedOrders = true := by kernel_rfl
        have hwk0 : IntKind.i64.wrap ((i : Int) + 1) = ((i + 1 : Nat) : Int) := by rw [IntKind.wrap_i64]; omega
        obtain ⟨k, hk⟩ : ∃ k, i + 1 = k := ⟨_, rfl⟩
        have HK := Lib.hid hk
        have hik2 : i ≤ k := by omega
        have hwk : IntKind.i64.wrap ((i : Int) + 1) = (k : Int) := by rw [hwk0, hk]
        have hi1z : (k : Int) ≤ (n : Int) := by omega
        have hi1n : k ≤ n := by omega
        have hi1c : k ≤ c := by omega
        have hic : i ≤ c := by omega
        clear hwk0 hk
        have hci : ¬ c = i := by omega
        have HB1k := Lib.hid (hd0.alloc (Nat.le_refl _) (.cells #[] 31))
        have HW1 := Lib.hid (ownG_empty X.drew base X.heap.size rfl HBB.out)
        have hsrcX : ∀ j u, (plC l)[j]? = some u → (X.drew.alloc (.cells #[] 31)).cell? ⟨g, j, none⟩ = some u := fun j u hj => by
          obtain ⟨g', c', e, hcell⟩ := ownG_flat (ownG_below HOX.out HB1k.out) j u hj
          injection e with e1
          injection e1 with e1
          injection e1 with e1
          subst e1
          exact hcell
        have HSRC := Lib.hid hsrcX
        have HTL := Lib.hid (show ((plC l).take (i * 5)).length = i * 5 by rw [List.length_take, HPL.out]; omega)
        have HDL := Lib.hid (show ((plC l).drop (k * 5)).length = (n - k) * 5 by rw [List.length_drop, HPL.out]; omega)
        have hst : 0 < i → ∃ ad, (some ⟨g, 0, none⟩ : Option Addr) = some ad ∧ ∀ j u, ((plC l).take (i * 5))[j]? = some u → (X.drew.alloc (.cells #[] 31)).cell? (ad.add j) = some u := fun _ => ⟨_, rfl, fun j u hj => by
          rw [Addr.add_lit, Nat.zero_add]
          rw [List.getElem?_take] at hj
          split at hj
          · exact HSRC.out j u hj
          · cases hj⟩
        have HST := Lib.hid hst
        have HZ1 := Lib.hid (Nat.le_trans HBB.out HB1k.out.size)
        have HTO := Lib.hid (fun (u : Value) (hu : u ∈ (plC l).take (i * 5)) => plC_one l u (List.mem_of_mem_take hu))
        have HDO := Lib.hid (fun (u : Value) (hu : u ∈ (plC l).drop (k * 5)) => plC_one l u (List.mem_of_mem_drop hu))
        have hglX : g < X.heap.size := by
          have := (ownG_lt HOX.out g rfl).2
          exact this
        clear hsrcX hst
        by_cases hci1 : c = k
        · obtain rfl : c = k := hci1
          obtain rfl : n = c := by omega
          go_region_law_o (first | (refine step_appendP rfl (.tmp 35) (.tmp 41) rfl base (.slice (some ⟨X.heap.size, 0, none⟩) 0 0) 0 [] (by simp [Act.eval, Act.put]) HW1.out (some ⟨g, 0, none⟩) i n (by simp [Act.eval, Act.put]) ((plC l).take (i * 5)) HTL.out HST.out HTO.out (by omega) HZ1.out ?_; intro v42 w42 hown42 hgr42 hv42 _; rw [Nat.zero_add, List.nil_append] at hown42; have hb42 := grown_below HB1k.out HB1k.out.size hgr42 (fun j hj => by have e := Option.some.inj (show some X.heap.size = some j from hj); omega); have l42 := (hb42.cell (p := ⟨q, 0, none⟩) hqX).trans l0; have hvb : ∀ j, (v42).ownBlock = some j → X.heap.size ≤ j := fun j hj => hv42.elim (fun h => by have e := Option.some.inj (show some X.heap.size = some j from h.symm.trans hj); omega) (fun h => by have e : (X.drew.alloc (.cells #[] 31)).heap.size = j := Option.some.inj (h.symm.trans hj); have h7 := HB1k.out.size; rw [e] at h7; exact h7); obtain ⟨A6, c6, rfl, _, _⟩ := ownG_shape hown42; have HV42 := Lib.hid hown42; have HB42 := Lib.hid hb42; have HZ42 := Lib.hid (Nat.le_trans HBB.out hb42.size); have HVB := Lib.hid hvb; have HG42 := Lib.hid (fun j u (hj : (plC l)[j]? = some u) => (hb42.cell (p := ⟨g, j, none⟩) hglX).trans (((HB1k.out.cell (p := ⟨g, j, none⟩) hglX).symm).trans (HSRC.out j u hj))); clear hown42 hgr42 hv42 hb42 hvb) | (refine step_appendP rfl (.tmp 42) (.tmp 49) rfl base (.slice A6 i c6) i ((plC l).take (i * 5)) (by simp [Act.eval, Act.put]) HV42.out (some ⟨g, 0, none⟩) 0 0 (by simp [Act.eval, Act.put]) ((plC l).drop (n * 5)) (show ((plC l).drop (n * 5)).length = 0 * 5 by rw [HDL.out]; omega) (fun h => absurd h (by omega)) HDO.out (by omega) HZ42.out ?_; intro v50 w50 hown50 hgr50 hv50 _; rw [Nat.add_zero] at hown50; have hb50 := grown_below HB42.out HB42.out.size hgr50 HVB.out; have hq50 := HSX.out.at_.below hb50 hqX; have l50 := hq50.cell 0; have f50 := hq50.frozen 0; have HX50 := Lib.hid (HXX.out.below hb50 HXX.out.lt); have HZ50 := Lib.hid (HZX.out.below hb50 HZX.out.lt); have hv50b : ∀ j, v50.ownBlock = some j → X.heap.size ≤ j := fun j hj => hv50.elim (fun h => HVB.out j (h.symm.trans hj)) (fun h => by have e : w42.heap.size = j := Option.some.inj (h.symm.trans hj); have h7 := HB42.out.size; rw [e] at h7; exact h7); obtain ⟨A7, c7, rfl, _, _⟩ := ownG_shape hown50; have H5 := Lib.hid (And.intro hown50 (And.intro hb50 (And.intro hq50 hv50b))); clear hown50 hgr50 hv50 hb50 hq50 hv50b))
          all_goals have hX5 := HX50.out.set_other (q := ⟨q, 0, none⟩) (show q ≠ gx by have := HSZ.out; omega) (.slice A7 i c7)
          all_goals have hZ5 := HZ50.out.set_other (q := ⟨q, 0, none⟩) (show q ≠ w.heap.size by omega) (.slice A7 i c7)
          all_goals have HX5 := Lib.hid hX5
          all_goals have HZ5 := Lib.hid hZ5
          all_goals clear hX5 hZ5
          all_goals go_wp2_with (first | ((with_reducible refine at_ldp ?_); refine ld_pm _ 0 r (by rfl) HX5.out.pk ?_) | ((with_reducible refine at_stp ?_); refine st_pat w.heap.size _ r (by rfl) (by rfl) HZ5.out (by rfl) ?_; intro w9 hZ9 hK9) | fail)
          all_goals refine bodyPost_ret (results_cell_tmp 4 5 31 (by rfl) _ 31 _ _ _ (by rfl) (by rfl) hZ9 Try.underlying31 rfl pk_size) rfl ?_
          all_goals exact .inl ⟨i, r, HR.out, HX.out, rfl, _, rtake_end (HBX.out.trans (H5.out.2.1.mono HBX.out.size)) H5.out.2.2.1 (by rw [HK.out]; exact H5.out.1) (by rw [HNN.out]; have := HK.out; omega) HSX.out.bq (fun j hj => by have h1 := H5.out.2.2.2 j hj; have h2 := HSZ.out; omega) hZ9 hK9 hq0⟩
        · go_region_law_o (first | (refine step_appendP rfl (.tmp 35) (.tmp 41) rfl base (.slice (some ⟨X.heap.size, 0, none⟩) 0 0) 0 [] (by simp [Act.eval, Act.put]) HW1.out (some ⟨g, 0, none⟩) i c (by simp [Act.eval, Act.put]) ((plC l).take (i * 5)) HTL.out HST.out HTO.out (by omega) HZ1.out ?_; intro v42 w42 hown42 hgr42 hv42 _; rw [Nat.zero_add, List.nil_append] at hown42; have hb42 := grown_below HB1k.out HB1k.out.size hgr42 (fun j hj => by have e := Option.some.inj (show some X.heap.size = some j from hj); omega); have l42 := (hb42.cell (p := ⟨q, 0, none⟩) hqX).trans l0; have hvb : ∀ j, (v42).ownBlock = some j → X.heap.size ≤ j := fun j hj => hv42.elim (fun h => by have e := Option.some.inj (show some X.heap.size = some j from h.symm.trans hj); omega) (fun h => by have e : (X.drew.alloc (.cells #[] 31)).heap.size = j := Option.some.inj (h.symm.trans hj); have h7 := HB1k.out.size; rw [e] at h7; exact h7); obtain ⟨A6, c6, rfl, _, _⟩ := ownG_shape hown42; have HV42 := Lib.hid hown42; have HB42 := Lib.hid hb42; have HZ42 := Lib.hid (Nat.le_trans HBB.out hb42.size); have HVB := Lib.hid hvb; have HG42 := Lib.hid (fun j u (hj : (plC l)[j]? = some u) => (hb42.cell (p := ⟨g, j, none⟩) hglX).trans (((HB1k.out.cell (p := ⟨g, j, none⟩) hglX).symm).trans (HSRC.out j u hj))); clear hown42 hgr42 hv42 hb42 hvb) | (refine step_appendP rfl (.tmp 42) (.tmp 49) rfl base (.slice A6 i c6) i ((plC l).take (i * 5)) (by simp [Act.eval, Act.put]) HV42.out (some ⟨g, k * 5, none⟩) (n - k) (c - k) (by simp [Act.eval, Act.put]) ((plC l).drop (k * 5)) HDL.out (fun _ => ⟨_, rfl, fun j u hj => by rw [Addr.add_lit]; rw [List.getElem?_drop] at hj; exact HG42.out _ u hj⟩) HDO.out (by omega) HZ42.out ?_; intro v50 w50 hown50 hgr50 hv50 _; have hb50 := grown_below HB42.out HB42.out.size hgr50 HVB.out; have hq50 := HSX.out.at_.below hb50 hqX; have l50 := hq50.cell 0; have f50 := hq50.frozen 0; have HX50 := Lib.hid (HXX.out.below hb50 HXX.out.lt); have HZ50 := Lib.hid (HZX.out.below hb50 HZX.out.lt); have hv50b : ∀ j, v50.ownBlock = some j → X.heap.size ≤ j := fun j hj => hv50.elim (fun h => HVB.out j (h.symm.trans hj)) (fun h => by have e : w42.heap.size = j := Option.some.inj (h.symm.trans hj); have h7 := HB42.out.size; rw [e] at h7; exact h7); obtain ⟨A7, c7, rfl, _, _⟩ := ownG_shape hown50; have H5 := Lib.hid (And.intro hown50 (And.intro hb50 (And.intro hq50 hv50b))); clear hown50 hgr50 hv50 hb50 hq50 hv50b))
          all_goals have hX5 := HX50.out.set_other (q := ⟨q, 0, none⟩) (show q ≠ gx by have := HSZ.out; omega) (.slice A7 (i + (n - k)) c7)
          all_goals have hZ5 := HZ50.out.set_other (q := ⟨q, 0, none⟩) (show q ≠ w.heap.size by omega) (.slice A7 (i + (n - k)) c7)
          all_goals have HX5 := Lib.hid hX5
          all_goals have HZ5 := Lib.hid hZ5
          all_goals clear hX5 hZ5
          all_goals go_wp2_with (first | ((with_reducible refine at_ldp ?_); refine ld_pm _ 0 r (by rfl) HX5.out.pk ?_) | ((with_reducible refine at_stp ?_); refine st_pat w.heap.size _ r (by rfl) (by rfl) HZ5.out (by rfl) ?_; intro w9 hZ9 hK9) | fail)
          all_goals refine bodyPost_ret (results_cell_tmp 4 5 31 (by rfl) _ 31 _ _ _ (by rfl) (by rfl) hZ9 Try.underlying31 rfl pk_size) rfl ?_
          all_goals exact .inl ⟨i, r, HR.out, HX.out, rfl, _, rtake_end (HBX.out.trans (H5.out.2.1.mono HBX.out.size)) H5.out.2.2.1 (by rw [HK.out]; exact H5.out.1) (by rw [HNN.out]; have := HK.out; omega) HSX.out.bq (fun j hj => by have h1 := H5.out.2.2.2 j hj; have h2 := HSZ.out; omega) hZ9 hK9 hq0⟩
      · have hn2 : ∀ j r, j < i + 1 → l[j]? = some r → r.n ≠ x := fun j r9 hj hr9 => by
          rcases Nat.lt_or_ge j i with h | h
          · exact HNO.out j r9 h hr9
          · obtain rfl : j = i := by omega
            rw [HR.out] at hr9
            injection hr9 with hr9
            subst hr9
            exact hx
        have HN2 := Lib.hid hn2
        have hxe := Lib.hid (show (r.n == x) = false by simp [hx])
        clear hn2 hx
        have hxe2 := hxe.out
        go_wp2
        go_roundg (n - (i + 1))
        case measure => omega
        case rel => exact ⟨i + 1, by simp, by omega, by omega, rfl, HN2.out⟩
    · obtain rfl : i = n := by omega
      have hiz : ¬ (i : Int) < (i : Int) := by omega
      have hall : ∀ r ∈ l, r.n ≠ x := fun r hr => by
        obtain ⟨j, hj⟩ := List.mem_iff_getElem?.1 hr
        exact hno j r (by have := (List.getElem?_eq_some_iff.1 hj).1; have := HN.out; omega) hj
      have HALL := Lib.hid hall
      clear hall hno
      go_wp2_with (first | ((with_reducible refine at_stp ?_); refine st_pat w.heap.size _ PK.zero (by rfl) (by rfl) HZ.out (by rfl) ?_; intro w9 hZ9 hK9) | fail)
      refine bodyPost_ret (results_cell_tmp 4 5 31 (by rfl) _ 31 _ _ _ (by rfl) (by rfl) hZ9 Try.underlying31 rfl pk_size) rfl ?_
      exact .inr ⟨HALL.out, rfl, hK9.below HBZ.out HBZ.out.size (fun j hj => by omega)⟩
end
end Go.Proofs.Ytpihgikcgkipaaa
