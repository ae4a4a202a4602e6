/-
  packet.Cut, packet.Reveal, packet.Unprotect.
-/
import Derived.Test.YtehdilgnlhhjdaaJd
import Derived.Test.YtehdilgnlhhjdaaMq2
import Derived.Test.YtehdilgnlhhjdaaMq5
namespace Go.Proofs.Ytehdilgnlhhjdaa
section
set_option linter.unusedVariables false
set_option linter.unusedSimpArgs false
open Go.RowKit Go.ChangeShapes Go.WideShapes Go.Deep
theorem HN.zero_wf : HN.zero.wf := ⟨by decide, by decide, by decide, by decide, by intro x hx; simp [HN.zero, N8.zero, N8.l] at hx; omega, by intro x hx; simp [HN.zero, N8.zero, N8.l] at hx; omega⟩
theorem inD_nil (w : World) (P : Nat → Prop) : InD w P Sl.nil [] := ⟨RdP.none_ _ _ _, Nat.le_refl _, Nat.zero_le _, fun _ => rfl⟩
theorem low_bd_ : ∀ (bs : List Int) (v : Int), 0 ≤ v ∧ v < 4294967296 → 0 ≤ bs.foldl (fun v x => bits BinOp.or IntKind.u32 (IntKind.u32.wrap (v * 256)) x) v ∧ bs.foldl (fun v x => bits BinOp.or IntKind.u32 (IntKind.u32.wrap (v * 256)) x) v < 4294967296
  | [], v, h => h
  | x :: r, v, h => low_bd_ r _ ⟨bits_lo_u32 _ _ _, by have := bits_hi_u32 BinOp.or (IntKind.u32.wrap (v * 256)) x; show bits BinOp.or IntKind.u32 (IntKind.u32.wrap (v * 256)) x < 4294967296; omega⟩
theorem low_bd (bs : List Int) : 0 ≤ lowS3 bs ∧ lowS3 bs < 4294967296 := low_bd_ bs 0 ⟨by decide, by decide⟩
theorem rev_bd (mk : Int) (bs : List Int) (r : Rev) (h : revS mk bs = some r) (hb : Byt bs) :
    1 ≤ r.m.w ∧ r.m.w ≤ 4 ∧ 0 ≤ r.low ∧ r.low < 4294967296 ∧ 1 ≤ r.at_ ∧ r.at_ + 8 ≤ r.x.length ∧ r.x.length ≤ bs.length ∧ Byt r.x ∧ 0 ≤ r.m.s ∧ r.m.s ≤ 2 ∧ r.tok.length ≤ 32 ∧ r.x.length = r.en := by
  unfold revS at h
  cases hp : parseS bs with
  | none => rw [hp] at h; cases h
  | some q =>
    obtain ⟨m, tok, a, b⟩ := q
    rw [hp] at h
    obtain ⟨p1, p2, p3, p4, p5, p6⟩ := parse_bd bs m tok a b hp
    injection h with h
    subst h
    have hf : 0 ≤ firstU mk bs m a.toNat ∧ firstU mk bs m a.toNat < 256 := xorB_bd _ _
    have hxl : (turnB (bs.take b.toNat) (maskS mk (samS bs a.toNat)) a.toNat (firstU mk bs m a.toNat % 4 + 1).toNat (mbits m.s)).length = b.toNat := by rw [turnB_len, List.length_take]; omega
    refine ⟨by show 1 ≤ firstU mk bs m a.toNat % 4 + 1; omega, by show firstU mk bs m a.toNat % 4 + 1 ≤ 4; omega, (low_bd _).1, (low_bd _).2, by show 1 ≤ a.toNat + _; omega, ?_, ?_, turnB_byt _ _ _ _ _ (hb.take _), p4, p5, p6, hxl⟩
    · show a.toNat + (firstU mk bs m a.toNat % 4 + 1).toNat + 8 ≤ _
      simp only; rw [hxl]; omega
    · simp only; rw [hxl]; omega
theorem unmask_any (sk mk : Int) (A : Option Addr) (n c : Nat) (bs : List Int) (w : World) (hr : Rd w w.heap.size A n bs) (hn : n ≤ 1000000) (hnc : n ≤ c) (hcm : c ≤ maxLen) (hA : A = none → c = 0) (k0 : 0 ≤ mk) (k1 : mk < 18446744073709551616) :
    Calls Try.prog 38 #[.agg (kL sk mk).toArray, .slice A n c] w (UnmPost mk bs w) := by
  cases h : parseS bs with
  | none => exact unmask_no sk mk A n c bs w hr hn hnc hcm hA k0 k1 h
  | some q =>
    obtain ⟨m, tok, a, b⟩ := q
    exact unmask_yes sk mk A n c bs w hr hn hnc hcm hA k0 k1 m tok a b h
/-- What Reveal says. -/
def outS (mk : Int) (bs : List Int) : HN × List Int × Int × Int := match revS mk bs with | none => (.zero, [], 0, 12) | some r => (r.m, r.tok, r.low, 0)
theorem UnmPost.open_ {mk : Int} {bs : List Int} {w w' : World} {e : Ending} (h : UnmPost mk bs w e w') (hb : Byt bs) : ∃ d s t, e = .returned (.tuple #[plV (outS mk bs).1 d (outS mk bs).2.2.1 s t, .int .i64 (outS mk bs).2.2.2]) ∧
    InD w' (fun b => w.heap.size ≤ b) d (outS mk bs).2.1 ∧ (outS mk bs).1.wf ∧ (0 ≤ (outS mk bs).2.2.1 ∧ (outS mk bs).2.2.1 < 4294967296) ∧ (∀ r, revS mk bs = some r → Sld w' s (r.x.take r.at_) ∧ Sld w' t (r.x.drop r.at_)) ∧ Below w.heap.size w w' := by
  unfold UnmPost at h
  unfold outS
  cases hr : revS mk bs with
  | none =>
    rw [hr] at h
    exact ⟨_, _, _, h.1, inD_nil _ _, HN.zero_wf, ⟨by decide, by decide⟩, (fun r hh => by cases hh), h.2⟩
  | some r =>
    rw [hr] at h
    obtain ⟨⟨d, s, t, h1, h2, h3, h4, h5⟩, hb'⟩ := h
    have hbd := rev_bd mk bs r hr hb
    exact ⟨d, s, t, h1, h2, h3, ⟨hbd.2.2.1, hbd.2.2.2.1⟩, fun r' hh => by injection hh with hh; subst hh; exact ⟨h4, h5⟩, hb'⟩
set_option maxRecDepth 100000 in
theorem cut9_any (A : Option Addr) (n c : Nat) (bs : List Int) (w : World) (hr : Rd w w.heap.size A n bs) (hn : n ≤ 1000000) (hA : A = none → c = 0) :
    Calls Try.prog 18 #[.slice A n c] w fun e w' => (e = .returned (.tuple #[.int .i64 (match parseS bs with | none => 0 | some x => x.2.2.2), .bool (parseS bs).isSome])) ∧ Below w.heap.size w w' := by
  have hpa := hparse_any A n c bs w hr hn hA
  have hpb : ∃ m tok a b why, (match parseS bs with | none => (0 : Int) | some x => x.2.2.2) = b ∧ (parseS bs).isSome = decide (why = 0) ∧ Calls Try.prog 42 #[.slice A n c] w fun e w' => ∃ d, e = .returned (.tuple #[hdV m d, .int .i64 a, .int .i64 b, .int .i64 why]) ∧ InD w' (fun b => w.heap.size ≤ b) d tok ∧ Below w.heap.size w w' := by
    cases hp : parseS bs with
    | none => exact ⟨.zero, [], 0, 0, 12, rfl, rfl, hpa.mono fun e w' h => by unfold HPPost at h; rw [hp] at h; exact ⟨_, h.1, inD_nil _ _, h.2⟩⟩
    | some x => exact ⟨x.1, x.2.1, x.2.2.1, x.2.2.2, 0, rfl, rfl, hpa.mono fun e w' h => by unfold HPPost at h; rw [hp] at h; obtain ⟨⟨d, h1, h2, _⟩, h3⟩ := h; exact ⟨d, h1, h2, h3⟩⟩
  obtain ⟨m, tok, a, b, why, e1, e2, hpc⟩ := hpb
  rw [e1, e2]
  have HPC := Lib.hid hpc
  clear hpa hpc e1 e2
  go_enter Try.func18, Try.ntmps18
  go_wp2_with fail
  refine HPC.out.mono ?_
  rintro e w3 ⟨d, rfl, hd, hb3⟩
  have hA3 : At (w3.alloc (.cells #[.int .i64 0, .int .u8 0, .int .u8 0, .int .u8 0, .int .u8 0, .int .u8 0, .int .u8 0, .int .u8 0, .int .u8 0, .int .u8 0, .int .u8 0, .int .u8 0, .int .u8 0, .int .u8 0, .int .u8 0, .int .u8 0, .int .u8 0, .slice none 0 0, .int .i64 0, .bool false] 30)) w3.heap.size 30 (hdL .zero .nil) := At.new w3 30 (hdL .zero .nil)
  have hb4 := hb3.alloc hb3.size (.cells #[.int .i64 0, .int .u8 0, .int .u8 0, .int .u8 0, .int .u8 0, .int .u8 0, .int .u8 0, .int .u8 0, .int .u8 0, .int .u8 0, .int .u8 0, .int .u8 0, .int .u8 0, .int .u8 0, .int .u8 0, .int .u8 0, .int .u8 0, .slice none 0 0, .int .i64 0, .bool false] 30)
  have hvv : hdV m d = .agg (hdL m d).toArray := rfl
  rw [hvv]
  have hLo : (hdL m d).all (·.oneCell') = true := rfl
  obtain ⟨L, hL⟩ : ∃ L, hdL m d = L := ⟨_, rfl⟩
  have hLl : L.length = 20 := by rw [← hL]; rfl
  rw [hL] at hLo ⊢
  have HLL := Lib.hid hLl
  clear hL hLl hvv
  go_wp2_with (first | ((with_reducible refine at_sth ?_); refine st_hd w3.heap.size (hdL .zero .nil) L (by rfl) (by rfl) hA3 rfl HLL.out hLo ?_; intro w4 hA4 hk4) | fail)
  refine bodyPost_ret (results_tmp2 rfl _ _ _) rfl ?_
  exact ⟨rfl, hk4.below hb4 hb4.size (by intro j hj; subst hj; exact hb3.size)⟩
theorem At.pre {w : World} {p : Nat} {T : TypeId} {l r : List Value} (h : At w p T (l ++ r)) : w.rangeAt p 0 l := fun j v hv => by
  rw [Nat.zero_add, h.cell, List.getElem?_append_left (by have := (List.getElem?_eq_some_iff.1 hv).1; exact this), hv]
/-- What stays while a packet's parts are read. -/
structure RvS (gp : Nat) (HL : List Value) (low : Int) (W : World) : Prop where
  h : W.rangeAt gp 0 HL
  c : W.cell? ⟨gp, 20, none⟩ = some (.int .u32 low)
def RevPost (mk : Int) (bs : List Int) (w : World) (e : Ending) (w' : World) : Prop := ∃ d, e = .returned (.tuple #[hdV (outS mk bs).1 d, .int .u32 (outS mk bs).2.2.1, .int .i64 (outS mk bs).2.2.2]) ∧ InD w' (fun b => w.heap.size ≤ b) d (outS mk bs).2.1 ∧ (outS mk bs).1.wf ∧ Below w.heap.size w w'
set_option maxRecDepth 100000 in
set_option maxHeartbeats 4000000 in
theorem reveal_any (sk mk : Int) (A : Option Addr) (n c : Nat) (bs : List Int) (w : World) (hr : Rd w w.heap.size A n bs) (hn : n ≤ 1000000) (hnc : n ≤ c) (hcm : c ≤ maxLen) (hA : A = none → c = 0) (k0 : 0 ≤ mk) (k1 : mk < 18446744073709551616) :
    Calls Try.prog 26 #[.agg (kL sk mk).toArray, .slice A n c] w (RevPost mk bs w) := by
  have hK0 : At (w.alloc (.cells (kL sk mk).toArray 40)) w.heap.size 40 (kL sk mk) := At.new w 40 _
  have hb0 : Below w.heap.size w (w.alloc (.cells (kL sk mk).toArray 40)) := (Below.refl _ _).alloc (Nat.le_refl _) _
  have hby := hr.2.1
  have HU := Lib.hid (fun W (h : Rd W W.heap.size A n bs) => unmask_any sk mk A n c bs W h hn hnc hcm hA k0 k1)
  obtain ⟨K, hK⟩ : ∃ K, kL sk mk = K := ⟨_, rfl⟩
  have hKl : K.length = 2 := by rw [← hK]; rfl
  rw [hK] at hK0 hb0 HU ⊢
  obtain ⟨w1, hw1⟩ : ∃ x, w.alloc (.cells K.toArray 40) = x := ⟨_, rfl⟩
  rw [hw1] at hK0 hb0
  have hH0 : At (w1.alloc (.cells #[.int .i64 0, .int .u8 0, .int .u8 0, .int .u8 0, .int .u8 0, .int .u8 0, .int .u8 0, .int .u8 0, .int .u8 0, .int .u8 0, .int .u8 0, .int .u8 0, .int .u8 0, .int .u8 0, .int .u8 0, .int .u8 0, .int .u8 0, .slice none 0 0, .int .i64 0, .bool false] 30)) w1.heap.size 30 (hdL .zero .nil) := At.new w1 30 (hdL .zero .nil)
  have hK1 := hK0.alloc (.cells #[.int .i64 0, .int .u8 0, .int .u8 0, .int .u8 0, .int .u8 0, .int .u8 0, .int .u8 0, .int .u8 0, .int .u8 0, .int .u8 0, .int .u8 0, .int .u8 0, .int .u8 0, .int .u8 0, .int .u8 0, .int .u8 0, .int .u8 0, .slice none 0 0, .int .i64 0, .bool false] 30)
  have hb1 := hb0.alloc hb0.size (.cells #[.int .i64 0, .int .u8 0, .int .u8 0, .int .u8 0, .int .u8 0, .int .u8 0, .int .u8 0, .int .u8 0, .int .u8 0, .int .u8 0, .int .u8 0, .int .u8 0, .int .u8 0, .int .u8 0, .int .u8 0, .int .u8 0, .int .u8 0, .slice none 0 0, .int .i64 0, .bool false] 30)
  have hlt0 := hK0.lt
  obtain ⟨w2, hw2⟩ : ∃ x, w1.alloc (.cells #[.int .i64 0, .int .u8 0, .int .u8 0, .int .u8 0, .int .u8 0, .int .u8 0, .int .u8 0, .int .u8 0, .int .u8 0, .int .u8 0, .int .u8 0, .int .u8 0, .int .u8 0, .int .u8 0, .int .u8 0, .int .u8 0, .int .u8 0, .slice none 0 0, .int .i64 0, .bool false] 30) = x := ⟨_, rfl⟩
  rw [hw2] at hH0 hK1 hb1
  have hr2 := (hr.below hb1).more hb1.size
  have hlt2 := hH0.lt
  have HKL := Lib.hid hKl
  clear hKl hr hK
  go_enter Try.func26, Try.ntmps26
  go_wp2_with (first | ((with_reducible refine at_ldk ?_); refine ld_kt w.heap.size K (by rfl) hK1 HKL.out ?_) | fail)
  refine (HU.out w2 hr2).mono ?_
  intro e w3 hup
  obtain ⟨d, s, t, rfl, hd, hwf, hlow, _, hb3⟩ := hup.open_ hby
  obtain ⟨⟨m, tok, low, why⟩, ho⟩ : ∃ x, outS mk bs = x := ⟨_, rfl⟩
  rw [ho] at hd hwf hlow ⊢
  simp only at hd hwf hlow ⊢
  have HO := Lib.hid ho
  clear ho
  have hP3 : At (w3.alloc (.cells #[.int .i64 0, .int .u8 0, .int .u8 0, .int .u8 0, .int .u8 0, .int .u8 0, .int .u8 0, .int .u8 0, .int .u8 0, .int .u8 0, .int .u8 0, .int .u8 0, .int .u8 0, .int .u8 0, .int .u8 0, .int .u8 0, .int .u8 0, .slice none 0 0, .int .i64 0, .bool false, .int .u32 0, .slice none 0 0, .slice none 0 0] 80)) w3.heap.size 80 (plL .zero .nil 0 .nil .nil) := At.new w3 80 (plL .zero .nil 0 .nil .nil)
  have hH3 := (hH0.below hb3 hH0.lt).alloc (.cells #[.int .i64 0, .int .u8 0, .int .u8 0, .int .u8 0, .int .u8 0, .int .u8 0, .int .u8 0, .int .u8 0, .int .u8 0, .int .u8 0, .int .u8 0, .int .u8 0, .int .u8 0, .int .u8 0, .int .u8 0, .int .u8 0, .int .u8 0, .slice none 0 0, .int .i64 0, .bool false, .int .u32 0, .slice none 0 0, .slice none 0 0] 80)
  have hb4 := (hb1.trans (hb3.mono hb1.size)).alloc (by have := hb1.size; have := hb3.size; omega) (.cells #[.int .i64 0, .int .u8 0, .int .u8 0, .int .u8 0, .int .u8 0, .int .u8 0, .int .u8 0, .int .u8 0, .int .u8 0, .int .u8 0, .int .u8 0, .int .u8 0, .int .u8 0, .int .u8 0, .int .u8 0, .int .u8 0, .int .u8 0, .slice none 0 0, .int .i64 0, .bool false, .int .u32 0, .slice none 0 0, .slice none 0 0] 80)
  have hQ3 : Kept (fun j => j = w1.heap.size ∨ w3.heap.size ≤ j) w3 (w3.alloc (.cells #[.int .i64 0, .int .u8 0, .int .u8 0, .int .u8 0, .int .u8 0, .int .u8 0, .int .u8 0, .int .u8 0, .int .u8 0, .int .u8 0, .int .u8 0, .int .u8 0, .int .u8 0, .int .u8 0, .int .u8 0, .int .u8 0, .int .u8 0, .slice none 0 0, .int .i64 0, .bool false, .int .u32 0, .slice none 0 0, .slice none 0 0] 80)) := (Kept.refl _ _).alloc _
  have hle3 := hb3.size
  have hle1 := hb1.size
  have hvv : plV m d low s t = .agg (plL m d low s t).toArray := rfl
  rw [hvv]
  have hLo : (plL m d low s t).all (·.oneCell') = true := rfl
  have hLa : plL m d low s t = hdL m d ++ [.int .u32 low, .slice s.A s.n s.c, .slice t.A t.n t.c] := rfl
  have hL20 : (plL m d low s t)[20]? = some (.int .u32 low) := rfl
  obtain ⟨L, hL⟩ : ∃ L, plL m d low s t = L := ⟨_, rfl⟩
  have hLl : L.length = 23 := by rw [← hL]; rfl
  rw [hL] at hLo hLa hL20 ⊢
  have hGo : (hdL m d).all (·.oneCell') = true := rfl
  have hvm : hdV m d = .agg (hdL m d).toArray := rfl
  obtain ⟨G, hG⟩ : ∃ G, hdL m d = G := ⟨_, rfl⟩
  have hGl : G.length = 20 := by rw [← hG]; rfl
  rw [hG] at hLa hGo hvm
  have HVM := Lib.hid hvm
  have HLL := Lib.hid hLl
  have HGL := Lib.hid hGl
  have HLA := Lib.hid hLa
  have HL20 := Lib.hid hL20
  clear hLl hGl hLa hvv hvm hL20 hL hG
  go_wp2_with (first | ((with_reducible refine at_stp ?_); refine st_pl w3.heap.size (plL .zero .nil 0 .nil .nil) L (by rfl) (by rfl) hP3 rfl HLL.out hLo ?_; intro w4 hP4 hk4) | fail)
  have hH4 := (hH3.kept hk4 (by omega)).drew
  have hQ4 := (hQ3.trans (hk4.mono (fun j hj => .inl (.inr (by omega))))).drew
  have hS4 : RvS w3.heap.size G low w4.drew := ⟨At.pre (T := 80) (r := [.int .u32 low, .slice s.A s.n s.c, .slice t.A t.n t.c]) (by rw [← HLA.out]; exact hP4), by show w4.cell? _ = _; rw [hP4.cell 20, HL20.out]⟩
  have hP5 := hP4.drew
  obtain ⟨Y, hY⟩ : ∃ x, w4.drew = x := ⟨_, rfl⟩
  rw [hY] at hH4 hQ4 hS4 hP5
  clear hP4 hk4 hH3 hP3
  refine wp_region_held_drew (S := (RvS w3.heap.size G low)) (by kernel_rfl) (by rw [hY]; exact hS4) (fun hHeld => ?_)
  rw [hY] at hHeld ⊢
  clear hY
  refine tkq 0 (some 15) (v := ?_) rfl (Or.inl ⟨by rfl, ?_⟩) (by assumption) ?_
  rotate_left
  · intro w hSw; (try dsimp only at hSw); go_simp; first | done | (with_reducible rfl)
  simp only [Act.put, List.setIfInBounds_toArray, List.set_cons_zero, List.set_cons_succ]
  refine tkq 1 (some 16) (v := ?_) rfl ?_ (by assumption) ?_
  rotate_left
  · refine yl_any 30 (.tmp 15) ?_ w3.heap.size 0 ?_ G _ ?_ Try.underlying30 rfl ?_ ?_
    · rfl
    · rfl
    · intro w hSw; exact hSw.h
    · rw [HGL.out]; exact hd_info
    · rfl
  simp only [Act.put, List.setIfInBounds_toArray, List.set_cons_zero, List.set_cons_succ]
  refine tkq 2 (some 17) (v := ?_) rfl (Or.inl ⟨by rfl, ?_⟩) (by assumption) ?_
  rotate_left
  · intro w hSw; (try dsimp only at hSw); go_simp; first | done | (with_reducible rfl)
  simp only [Act.put, List.setIfInBounds_toArray, List.set_cons_zero, List.set_cons_succ]
  refine tkq 3 (some 18) (v := ?_) rfl (Or.inl ⟨by rfl, ?_⟩) (by assumption) ?_
  rotate_left
  · intro w hSw; (try dsimp only at hSw); have h1 := hSw.c; go_simp; first | done | (with_reducible rfl)
  simp only [Act.put, List.setIfInBounds_toArray, List.set_cons_zero, List.set_cons_succ]
  refine tkq 4 (some 19) (v := ?_) rfl (Or.inl ⟨by rfl, ?_⟩) (by assumption) ?_
  rotate_left
  · intro w hSw; (try dsimp only at hSw); go_simp; first | done | (with_reducible rfl)
  simp only [Act.put, List.setIfInBounds_toArray, List.set_cons_zero, List.set_cons_succ]
  refine wpAnyH_ready (rs := [5]) (by kernel_rfl) (by simp) ?_
  refine AllReadyH.cons rfl (fun K hK => ?_) AllReadyH.nil
  refine step_st_any (by rfl) w1.heap.size 30 (hdL .zero .nil) G (by rfl) (by rfl) hH4 (by rw [HGL.out]; rfl) (by rw [HGL.out]; exact hd_info) hGo ?_
  intro w5 hH5 hk5
  have hP6 := hP5.kept hk5 (by omega)
  refine hK.out _ _ (⟨At.pre (T := 80) (r := [.int .u32 low, .slice s.A s.n s.c, .slice t.A t.n t.c]) (by rw [← HLA.out]; exact hP6), by rw [hP6.cell 20, HL20.out]⟩) (fun hHeld => ?_)
  clear hK K
  refine tkq 6 (some 5) (v := ?_) rfl (Or.inl ⟨by rfl, ?_⟩) (by assumption) ?_
  rotate_left
  · intro w hSw; (try dsimp only at hSw); go_simp; first | done | (with_reducible rfl)
  simp only [Act.put, List.setIfInBounds_toArray, List.set_cons_zero, List.set_cons_succ]
  refine tkq 7 (some 6) (v := ?_) rfl (Or.inl ⟨by rfl, ?_⟩) (by assumption) ?_
  rotate_left
  · intro w hSw; (try dsimp only at hSw); go_simp; first | done | (with_reducible rfl)
  simp only [Act.put, List.setIfInBounds_toArray, List.set_cons_zero, List.set_cons_succ]
  refine wpAnyH_done (by kernel_rfl) ?_ _
  go_wp2_with fail
  refine bodyPost_ret (results_cell_tmp2 4 5 6 30 (by rfl) _ 30 _ _ _ _ (by rfl) (by rfl) (by rfl) hH5 Try.underlying30 rfl (by rw [HGL.out]; exact hd_info)) rfl ?_
  have hQ5 := hQ4.trans (hk5.mono (fun j hj => .inl (.inl hj)))
  have hd3 := hd.mono (P' := fun b => w2.heap.size ≤ b ∧ b < w3.heap.size) (fun b h1 h2 => ⟨h2, h1⟩)
  have hd5 := hd3.kept hQ5 (fun b hb hh => by have h9 : w2.heap.size ≤ b ∧ b < w3.heap.size := hb; have h7 : b = w1.heap.size ∨ w3.heap.size ≤ b := hh; omega)
  unfold RevPost
  rw [HO.out]
  exact ⟨d, by show _ = Ending.returned (.tuple #[hdV m d, .int .u32 low, .int .i64 why]); rw [HVM.out]; rfl, hd5.mono (fun b _ hb => by have h9 : w2.heap.size ≤ b ∧ b < w3.heap.size := hb; show w.heap.size ≤ b; omega), hwf, hQ5.below (hb1.trans (hb3.mono hb1.size)) (by omega) (by intro j hj; omega)⟩
end
section
set_option linter.unusedVariables false
open Go.RowKit
theorem rsize_any (x : Int) (w : World) : Calls Try.prog 93 #[.int .u64 x] w fun e w' => e = .returned (.int .i64 (sizeS x)) ∧ w = w' := by
  have hfin : (sizeS x : Int) = if x < 64 then 1 else if x < 16384 then 2 else if x < 1073741824 then 4 else if x ≤ 4611686018427387903 then 8 else 0 := by
    unfold sizeS; (repeat' split) <;> rfl
  have H := Lib.hid hfin; clear hfin
  go_enter Try.func93, Try.ntmps93
  go_wp2
  all_goals
    go_ret
    exact ⟨ret_int (by rw [H.out]; (repeat' split) <;> omega), rfl⟩
/-- What the document's own table adds to the first byte. -/
def tblS (s : Nat) : Int := if s = 2 then 64 else if s = 4 then 128 else if s = 8 then 192 else 0
theorem tbl_first (x : Int) (h0 : 0 ≤ x) (h : x ≤ 4611686018427387903) (y : Int) (hy : y = IntKind.u8.wrap (x / 2 ^ (8 * (sizeS x - 1)))) :
    bits BinOp.or IntKind.u8 y (tblS (sizeS x)) = byteS (sizeS x) (putM x) 0 ∧ 0 ≤ y ∧ y < 64 := by
  subst hy
  have hf := put_first x h0 h
  rw [IntKind.wrap_u8]
  unfold tblS
  rcases size_cases x h0 h with ⟨a, b, c, d⟩ | ⟨a, b, c, d⟩ | ⟨a, b, c, d⟩ | ⟨a, b, c, d⟩ <;> rw [a] at hf ⊢ <;> rw [c] at hf ⊢ <;> rw [hf.1]
  · refine ⟨?_, by omega, hf.2⟩
    rw [if_neg (by omega), if_neg (by omega), if_neg (by omega), u8_or _ _ (by omega) (by omega) (by omega) (by omega)]; simp; omega
  · refine ⟨?_, by omega, hf.2⟩
    rw [if_pos (by omega), u8_or _ _ (by omega) (by omega) (by omega) (by omega), Nat.or_comm, nat_join 6 _ _ (by decide) (by omega)]; simp; omega
  · refine ⟨?_, by omega, hf.2⟩
    rw [if_neg (by omega), if_pos (by omega), u8_or _ _ (by omega) (by omega) (by omega) (by omega), Nat.or_comm, nat_join 6 _ _ (by decide) (by omega)]; simp; omega
  · refine ⟨?_, by omega, hf.2⟩
    rw [if_neg (by omega), if_neg (by omega), if_pos (by omega), u8_or _ _ (by omega) (by omega) (by omega) (by omega), Nat.or_comm, nat_join 6 _ _ (by decide) (by omega)]; simp; omega
set_option maxRecDepth 100000 in
set_option maxHeartbeats 2000000 in
theorem rput_any (A : Option Addr) (n c : Nat) (bs : List Int) (x : Int) (w : World) (hr : Rd w w.heap.size A n bs) (hc : n ≤ 140737488355000) (h0 : 0 ≤ x) (h1 : x ≤ 4611686018427387903) :
    Calls Try.prog 77 #[.slice A n c, .int .u64 x] w fun e w' => ∃ v, e = .returned v ∧
      Own w' w.heap.size 5 v (bs ++ putS x) ∧ Below w.heap.size w w' := by
  obtain ⟨i0, hi, hz0, hz1, hz2⟩ := info_parts u8_info
  have hb0 := Below.refl w.heap.size w
  have hps : putS x = beS (sizeS x) (putM x) := rfl
  have hs4 : sizeS x = 1 ∨ sizeS x = 2 ∨ sizeS x = 4 ∨ sizeS x = 8 := by
    rcases size_cases x h0 h1 with ⟨a, _⟩ | ⟨a, _⟩ | ⟨a, _⟩ | ⟨a, _⟩ <;> simp [a]
  have hs8 := size_le x
  have hs1 := size_pos x h1
  have htf := tbl_first x h0 h1 _ rfl
  have hlat := put_later x h0 h1
  obtain ⟨s, hs⟩ : ∃ s, sizeS x = s := ⟨_, rfl⟩
  obtain ⟨M, hMM⟩ : ∃ M, putM x = M := ⟨_, rfl⟩
  have S := Lib.hid hs
  rw [hs] at hps hs8 hs1 htf hlat hs4
  rw [hMM] at hps htf hlat
  clear hs hMM
  have PS := Lib.hid hps
  have LAT := Lib.hid hlat
  have TF := Lib.hid htf
  have S4 := Lib.hid hs4
  have HL := Lib.hid hr.1
  have hby := hr.2.1
  clear hps hlat htf hs4
  go_enter Try.func77, Try.ntmps77
  go_wp2_with (first
    | (go_at_call 93; refine (rsize_any _ _).mono ?_; rintro e w' ⟨rfl, rfl⟩; rw [S.out])
    | (at_builtin; refine wpList_append_rd rfl (.tmp 11) (.tmp 12) 28 rfl w.heap.size 5 i0 Try.underlying28 hi hz0 hz1 hz2 _ [] rfl (Own.of_block (n := 0) (cap := 0) Byt.nil rfl (heap_alloc_new w _) (Nat.le_refl _) (Nat.le_refl _) (Nat.zero_le _) rfl rfl) _ A n c bs rfl (hr.alloc (Nat.le_refl _) _) (by simp; omega) w (hb0.alloc (Nat.le_refl _) _) (by simp) ?_; intro v2 w2 hown2 hb2 hgr2))
  clear hr hb0 hgr2
  go_loopw [6, 7] (fun v i wr => ∃ k : Nat, k ≤ s ∧ i = .int .i64 k ∧ Own wr w.heap.size 5 v (bs ++ (beS s M).take k) ∧ Below w.heap.size w wr) (fun _ i _ => s - (intOf i).toNat)
  case atStart => exact ⟨0, Nat.zero_le _, rfl, by simpa using hown2, hb2⟩
  case round =>
    obtain ⟨k, hk, rfl, hown, hbr⟩ := hrel
    clear hown2 hb2
    have hbs := hbr.size
    by_cases hlt : k < s
    · have htk := beS_take s M k hlt
      have hll : ((beS s M).take k).length ≤ 8 := by have := List.length_take_le k (beS s M); omega
      have TK := Lib.hid htk; clear htk
      by_cases hk0 : k = 0
      · subst hk0
        rcases S4.out with rfl | rfl | rfl | rfl
        all_goals
          go_wp2_with (at_builtin; go_loud (refine wpList_append_rd rfl (.tmp 36) (.tmp 38) 28 rfl w.heap.size 5 i0 Try.underlying28 hi hz0 hz1 hz2 _ _ rfl ((hown.alloc _).alloc _) _ _ 1 1 [_] rfl (Rd.byte _ 5 _ (by simp) _ (u8_bits_bd _ _ _)) (by rw [List.length_append, HL.out]; omega) w ((hbr.alloc hbs _).alloc (by simp; omega) _) (by simp; omega) ?_); intro v' w3 hown3 hb3 hgr3)
          go_roundw
          case rel => exact ⟨1, by omega, by first | rfl | omega, hown3.cast (by rw [show List.take 1 (beS _ M) = List.take (0 + 1) (beS _ M) from rfl, TK.out, ← TF.out.1, IntKind.wrap_u8]; first | (simp [tblS]; done) | (simp [tblS]; rw [show x / 72057594037927936 % 256 = x / 72057594037927936 by omega]))⟩
          case measure => simp [intOf]
      · have hkz : ((k : Int) == 0) = false := by simp; omega
        have hbyte : IntKind.u8.wrap (x / 2 ^ (8 * (s - 1 - k))) = byteS s M k := by
          rw [LAT.out k (by omega) hlt, IntKind.wrap_u8]
        have BY := Lib.hid hbyte; clear hbyte
        go_wp2_with (at_builtin; go_loud (refine wpList_append_rd rfl (.tmp 36) (.tmp 38) 28 rfl w.heap.size 5 i0 Try.underlying28 hi hz0 hz1 hz2 _ _ rfl (hown.alloc _) _ _ 1 1 [_] rfl (Rd.byte _ 5 _ (by simp) _ (by first | exact u8_wrap_bd _ | omega)) (by rw [List.length_append, HL.out]; omega) w (hbr.alloc hbs _) (by simp; omega) ?_); intro v' w3 hown3 hb3 hgr3)
        go_roundw
        case rel => exact ⟨k + 1, by omega, by go_num, hown3.cast (by rw [TK.out, ← BY.out, IntKind.wrap_u8]; simp), hb3⟩
        case measure => simp [intOf]; omega
    · obtain rfl : k = s := by omega
      have hfin : (beS k M).take k = beS k M := List.take_of_length_le (by rw [beS_len]; omega)
      rw [hfin] at hown
      clear hfin
      go_wp2
      go_ret
      exact ⟨_, rfl, by rw [PS.out]; exact hown, hbr⟩
end
section
set_option linter.unusedVariables false
open Go.RowKit
set_option maxRecDepth 100000 in
theorem rtwo2_any (A : Option Addr) (n c : Nat) (bs : List Int) (x : Int) (w : World) (hr : Rd w w.heap.size A n bs) (hl : n ≤ 100000000000000) (h0 : 0 ≤ x) (h1 : x < 65536) :
    Calls Try.prog 45 #[.slice A n c, .int .u16 x] w fun e w' => ∃ v, e = .returned v ∧ Own w' w.heap.size 5 v (bs ++ twoB x) ∧ Below w.heap.size w w' := by
  obtain ⟨i0, hi, hz0, hz1, hz2⟩ := info_parts u8_info
  have e1 : IntKind.u8.wrap (x / 256) = x / 256 := by rw [IntKind.wrap_u8]; omega
  have e2 : IntKind.u8.wrap x = x % 256 := by rw [IntKind.wrap_u8]
  have hby : Byt [x / 256, x % 256] := fun y hy => by simp at hy; omega
  have hlen := hr.1
  go_enter Try.func45, Try.ntmps45
  go_wp2_with (first
    | (at_builtin; refine wpList_append_rd rfl (.tmp 5) (.tmp 6) 28 rfl w.heap.size 5 i0 Try.underlying28 hi hz0 hz1 hz2 _ [] rfl (Own.of_block (n := 0) (cap := 0) Byt.nil rfl (heap_alloc_new w _) (Nat.le_refl _) (Nat.le_refl _) (Nat.zero_le _) rfl rfl) _ A n c bs rfl (hr.alloc (Nat.le_refl _) _) (by simp; omega) w ((Below.refl _ _).alloc (Nat.le_refl _) _) (by simp) ?_; intro v2 w2 hown2 hb2 hgr2; have hs2 := hb2.size; have HO := Lib.hid (hown2.cast (List.nil_append _)); clear hown2 hgr2)
    | (at_builtin; refine wpList_append_rd rfl (.tmp 7) (.tmp 13) 28 rfl w.heap.size 5 i0 Try.underlying28 hi hz0 hz1 hz2 _ bs rfl (HO.out.alloc _) _ _ 2 2 [x / 256, x % 256] rfl (Rd.lit w2 5 _ hby _ rfl) (by omega) w (hb2.alloc hs2 _) (by simp; omega) ?_; intro v3 w3 hown3 hb3 hgr3))
  go_ret
  exact ⟨_, rfl, hown3, hb3⟩
set_option maxRecDepth 100000 in
theorem rtext2_any (A : Option Addr) (n c : Nat) (bs : List Int) (A' : Option Addr) (n' c' : Nat) (xs : List Int) (w : World) (hr : Rd w w.heap.size A n bs) (hr' : Rd w w.heap.size A' n' xs) (hl : n ≤ 10000000000000) (hl' : n' ≤ 10000000000000) :
    Calls Try.prog 44 #[.slice A n c, .slice A' n' c'] w fun e w' => ∃ v, e = .returned v ∧ Own w' w.heap.size 5 v (bs ++ textB xs) ∧ Below w.heap.size w w' := by
  obtain ⟨i0, hi, hz0, hz1, hz2⟩ := info_parts u8_info
  have e0 := Lib.hid (show (n' : Int) = (xs.length : Int) by rw [hr'.1])
  have e1 := Lib.hid (show bs ++ putS (n' : Int) ++ xs = bs ++ textB xs by unfold textB; rw [e0.out, List.append_assoc])
  have hpl : (bs ++ putS (n' : Int)).length ≤ n + 8 := by rw [List.length_append, hr.1, putS_len]; have := size_le (n' : Int); omega
  go_enter Try.func44, Try.ntmps44
  go_wp2_with fail
  refine (rput_any A n c bs n' w hr (by omega) (by omega) (by omega)).mono ?_
  rintro e w1 ⟨v1, rfl, ho1, hb1⟩
  have hs1 := hb1.size
  go_wp2_with (at_builtin; refine wpList_append_rd rfl (.tmp 9) (.tmp 10) 28 rfl w.heap.size 5 i0 Try.underlying28 hi hz0 hz1 hz2 _ _ rfl ho1 _ A' n' c' xs rfl (hr'.below hb1) (by omega) w hb1 hs1 ?_; intro v3 w3 hown3 hb3 hgr3)
  go_ret
  exact ⟨_, rfl, e1.out ▸ hown3, hb3⟩
end
end Go.Proofs.Ytehdilgnlhhjdaa
