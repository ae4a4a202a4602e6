/-
  outbuf.Buffer: Next.
-/
import Derived.Test.YtoakahofiodbhaaDh
import Derived.Test.YtoakahofiodbhaaTk
import Derived.Test.YtoakahofiodbhaaHt
import Derived.StillTailTactics
namespace Go.Proofs.Ytoakahofiodbhaa
set_option linter.unusedVariables false
set_option linter.unusedSimpArgs false
open Go.RowKit
theorem results_tmp4 {fn : Func} {t u v x : Tmp} (h : fn.results = #[.tmp t, .tmp u, .tmp v, .tmp x]) (tmps : Array Value) (P : Program) (w : World) :
    (results fn tmps).run P w = .ok (.tuple #[tmps.getD t undef, tmps.getD u undef, tmps.getD v undef, tmps.getD x undef]) w := by
  simp [results, h]
/-- What Next leaves. -/
def ONPost (base p : Nat) (O : Nat → Prop) (S : OS) (most limit : Nat) (w : World) (e : Ending) (w' : World) : Prop :=
  ∃ v, e = .returned (.tuple #[.int .u64 (nextR S most limit).off, v, .bool (nextR S most limit).fin, .bool (nextR S most limit).yes]) ∧ Own w' w.heap.size 5 v ((S.bs.drop (nextR S most limit).off).take (nextR S most limit).n) ∧
    ∃ O', Of w' base p O' (nextO S most limit) ∧ Kept O w w' ∧ ∀ j, O' j → O j ∨ w.heap.size ≤ j
theorem sentO_none (S : OS) : sentO S 0 0 false = S := by
  obtain ⟨bs, ak, ag, gn, ov, en, ea, el⟩ := S
  unfold sentO
  simp
/-- What Next keeps: r stands at block g. -/
structure Nz (w W : World) (base p pa pl : Nat) (va vl vw : Value) (la ll' : RL) (S : OS) (lo hi g : Nat) (vl' : Value) (gn : Nat) (du en : Bool) : Prop where
  om : Om W base p pa pl va vl' vw la ll' (S.bs.drop (baseO S)) (baseO S) gn S.ov du en S.ea
  k : Kept (oO p pa pl va vl vw) w W
  n : ∀ j, oO p pa pl va vl' vw j → j ≠ g ∧ (oO p pa pl va vl vw j ∨ w.heap.size ≤ j)
  r : At W g 57 [.int .u64 lo, .int .u64 hi]
section
variable {w W W' : World} {base p pa pl : Nat} {va vl vw : Value} {la ll' : RL} {S : OS} {lo hi g : Nat} {vl' : Value} {gn : Nat} {du en : Bool}
theorem Nz.below (h : Nz w W base p pa pl va vl vw la ll' S lo hi g vl' gn du en) (k : Below W.heap.size W W') : Nz w W' base p pa pl va vl vw la ll' S lo hi g vl' gn du en :=
  ⟨h.om.below k, h.k.trans (Kept.of_below k _), h.n, h.r.below k h.r.lt⟩
theorem Nz.drewN (h : Nz w W base p pa pl va vl vw la ll' S lo hi g vl' gn du en) (n : Nat) : Nz w (W.drewN n) base p pa pl va vl vw la ll' S lo hi g vl' gn du en := h.below (below_drewN (Below.refl _ _) n)
theorem Nz.pg (h : Nz w W base p pa pl va vl vw la ll' S lo hi g vl' gn du en) : p ≠ g := (h.n p (oO_at (i := 0) rfl)).1
theorem Nz.set_gn (h : Nz w W base p pa pl va vl vw la ll' S lo hi g vl' gn du en) (x : Nat) : Nz w (W.setCell ⟨p, 2, none⟩ (.int .u64 x)) base p pa pl va vl vw la ll' S lo hi g vl' x du en :=
  ⟨h.om.set_gn x, h.k.setCell (p := ⟨p, 2, none⟩) (.inl (oO_at (i := 0) rfl)) _, h.n, h.r.set_other (q := ⟨p, 2, none⟩) h.pg _⟩
theorem Nz.set_du (h : Nz w W base p pa pl va vl vw la ll' S lo hi g vl' gn du en) (x : Bool) : Nz w (W.setCell ⟨p, 6, none⟩ (.bool x)) base p pa pl va vl vw la ll' S lo hi g vl' gn x en :=
  ⟨h.om.set_du x, h.k.setCell (p := ⟨p, 6, none⟩) (.inl (oO_at (i := 0) rfl)) _, h.n, h.r.set_other (q := ⟨p, 6, none⟩) h.pg _⟩
theorem Nz.set_en (h : Nz w W base p pa pl va vl vw la ll' S lo hi g vl' gn du en) (x : Bool) : Nz w (W.setCell ⟨p, 7, none⟩ (.bool x)) base p pa pl va vl vw la ll' S lo hi g vl' gn du x :=
  ⟨h.om.set_en x, h.k.setCell (p := ⟨p, 7, none⟩) (.inl (oO_at (i := 0) rfl)) _, h.n, h.r.set_other (q := ⟨p, 7, none⟩) h.pg _⟩
theorem Nz.r0 (h : Nz w W base p pa pl va vl vw la ll' S lo hi g vl' gn du en) : W.cell? ⟨g, 0, none⟩ = some (.int .u64 lo) := by rw [h.r.cell]; rfl
theorem Nz.r1 (h : Nz w W base p pa pl va vl vw la ll' S lo hi g vl' gn du en) : W.cell? ⟨g, 1, none⟩ = some (.int .u64 hi) := by rw [h.r.cell]; rfl
end
/-- What stands behind the Cut of the lost ones. -/
theorem nz_cut {w X : World} {base p pa pl : Nat} {va vl vw : Value} {la ll : RL} {S : OS} {lo hi g : Nat} (hO : Om w base p pa pl va vl vw la ll (S.bs.drop (baseO S)) (baseO S) S.gn S.ov (endO S) S.en S.ea) (hy : Sa S la ll) (hok : S.ok) (hb : base ≤ w.heap.size) (hB : Below w.heap.size w X) (hA : At X g 57 [.int .u64 lo, .int .u64 hi]) (hg : w.heap.size ≤ g) (hh : hi ≤ 1099511627776) :
    Calls Try.prog 28 #[.pointer (some ⟨pl, 0, none⟩), .int .u64 lo, .int .u64 hi] X.drew fun e w' => e = .returned (.tuple #[]) ∧ ∃ vl', Hid (Nz w w' base p pa pl va vl vw la (cutL ll lo hi 2048) S lo hi g vl' S.gn (endO S) S.en) := by
  have hx := (hO.below hB).drew
  have hbX : base ≤ X.drew.heap.size := Nat.le_trans hb hB.size
  have hllf := hy.ll_few hok
  refine (cut_any' base pl 2048 vl ll X.drew hx.sl (by omega) hy.gl hbX (by omega) lo hi (by omega) (by omega)).mono fun e w' hP => ?_
  obtain ⟨he, vl', k1, k2, k3⟩ := hx.losts hP
  have hne : ∀ j, oO p pa pl va vl vw j → j ≠ g := fun j hj e => by have := (hO.lt j hj).2; omega
  have hgX : g < X.drew.heap.size := hA.lt
  refine ⟨he, vl', Lib.hid ⟨k1, ((Kept.of_below hB (oO p pa pl va vl vw)).drew).trans' k2 fun j hj => .inl hj, fun j hj => ?_, hA.drew.kept k2 fun e => hne g e rfl⟩⟩
  rcases k3 j hj with h | h
  · exact ⟨hne j h, .inl h⟩
  · exact ⟨by omega, .inr (Nat.le_trans hB.size h)⟩
/-- The end: what was told is sent. -/
theorem nz_end {w W : World} {base p pa pl : Nat} {va vl vw : Value} {la ll : RL} {S : OS} {lo hi g : Nat} {vl' : Value} {du en : Bool} (fin : Bool) (h : Nz w W base p pa pl va vl vw la (cutL ll lo hi 2048) S lo hi g vl' (max S.gn hi) du en) (hok : S.ok) (hy : Sa S la ll) (hlo : lo ≤ hi) (hge : lo = hi → lo ≤ S.gn)
    (hdu : du = (endO S && !fin)) (hen : en = (S.en || fin)) : ∃ O', Of W base p O' (sentO S lo (hi - lo) fin) ∧ Kept (oO p pa pl va vl vw) w W ∧ ∀ j, O' j → oO p pa pl va vl vw j ∨ w.heap.size ≤ j := by
  have hsa := hy.sent hok hlo fin
  have hgn : (sentO S lo (hi - lo) fin).gn = max S.gn hi := by
    show max S.gn (if hi - lo = 0 then 0 else lo + (hi - lo)) = _
    split
    · have := hge (by omega)
      omega
    · rw [show lo + (hi - lo) = hi by omega]
  have hend : endO (sentO S lo (hi - lo) fin) = du := by
    rw [hdu]
    show (S.ov && !S.ea && (!(S.en || fin) || (S.el && !fin))) = ((S.ov && !S.ea && (!S.en || S.el)) && !fin)
    cases S.ov <;> cases S.ea <;> cases S.en <;> cases S.el <;> cases fin <;> rfl
  refine ⟨_, ⟨pa, pl, va, vl', vw, la, _, rfl, ?_, hsa⟩, h.k, fun j hj => (h.n j hj).2⟩
  rw [hgn, hend]
  have e : (sentO S lo (hi - lo) fin).en = en := by rw [hen]; rfl
  rw [e]
  exact h.om
set_option maxHeartbeats 2000000 in
set_option maxRecDepth 100000 in
theorem onext_no {w : World} {base p : Nat} {O : Nat → Prop} {S : OS} (h : Of w base p O S) (hok : S.ok) (hL : S.bs.length ≤ 1099511627776) (most : Int) (hm : -9223372036854775808 ≤ most ∧ most < 9223372036854775808) (limit : Nat) (hl : limit < 18446744073709551616)
    (lo hi0 : Nat) (ok : Bool) (hah : ∀ la ll, Sa S la ll → ahO S ll limit = (((lo : Int), (hi0 : Int)), ok)) (hno : ok = false ∨ (most < 1 ∧ lo < hi0)) (hr : nextR S most.toNat limit = ⟨0, 0, false, false⟩) :
    Calls Try.prog 14 #[.pointer (some ⟨p, 0, none⟩), .int .i64 most, .int .u64 limit] w (ONPost base p O S most.toNat limit w) := by
  have HQ : Hid (∀ w', Below w.heap.size w w' → ONPost base p O S most.toNat limit w (.returned (.tuple #[.int .u64 0, .slice none 0 0, .bool false, .bool false])) w') := Lib.hid (fun w' hB => by
    refine ⟨.slice none 0 0, by rw [hr]; rfl, ?_, O, ?_, Kept.of_below hB _, fun j hj => .inl hj⟩
    · rw [hr]
      exact Own.none_ _ _ _
    · unfold nextO
      rw [hr]
      rw [sentO_none]
      exact h.below hB)
  obtain ⟨pa, pl, va, vl, vw, la, ll, rfl, hO, hy⟩ := h
  have HA := Lib.hid (ahead_at hO hy (by have := hy.ll_few hok; omega) hL limit hl)
  rw [hah la ll hy] at HA
  unfold ahV at HA
  simp only at HA
  clear hO hy hah hr
  rcases hno with rfl | ⟨h1, h2⟩
  · go_enter Try.func14, Try.ntmps14
    go_wp2_with (go_at_call 27; (with_reducible refine HA.out.mono ?_); rintro ez w2 ⟨rfl, hB2⟩; have HB2 := Lib.hid hB2; clear hB2)
    refine bodyPost_ret (results_tmp4 rfl _ _ _) rfl ?_
    exact HQ.out _ (HB2.out.alloc HB2.out.size _)
  · cases ok
    · go_enter Try.func14, Try.ntmps14
      go_wp2_with (go_at_call 27; (with_reducible refine HA.out.mono ?_); rintro ez w2 ⟨rfl, hB2⟩; have HB2 := Lib.hid hB2; clear hB2)
      refine bodyPost_ret (results_tmp4 rfl _ _ _) rfl ?_
      exact HQ.out _ (HB2.out.alloc HB2.out.size _)
    · have h2z : (lo : Int) < (hi0 : Int) := by omega
      go_enter Try.func14, Try.ntmps14
      go_wp2_with (go_at_call 27; (with_reducible refine HA.out.mono ?_); rintro ez w2 ⟨rfl, hB2⟩; have HB2 := Lib.hid hB2; clear hB2)
      refine bodyPost_ret (results_tmp4 rfl _ _ _) rfl ?_
      exact HQ.out _ (HB2.out.alloc HB2.out.size _)
end Go.Proofs.Ytoakahofiodbhaa
