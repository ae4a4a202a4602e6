/-
  packet.Cut, packet.Reveal, packet.Unprotect.
-/
import Derived.Test.YtehdilgnlhhjdaaJd
import Derived.Test.YtehdilgnlhhjdaaMq1
import Derived.Test.YtehdilgnlhhjdaaMq3
import Derived.Test.YtehdilgnlhhjdaaMq4
namespace Go.Proofs.Ytehdilgnlhhjdaa
section
set_option linter.unusedVariables false
set_option linter.unusedSimpArgs false
open Go.RowKit Go.ChangeShapes Go.WideShapes Go.Deep
theorem HN.zero_wf : HN.zero.wf := ⟨by decide, by decide, by decide, by decide, by intro x hx; simp [HN.zero, N8.zero, N8.l] at hx; omega, by intro x hx; simp [HN.zero, N8.zero, N8.l] at hx; omega⟩
theorem inD_nil (w : World) (P : Nat → Prop) : InD w P Sl.nil [] := ⟨RdP.none_ _ _ _, Nat.le_refl _, Nat.zero_le _, fun _ => rfl⟩
theorem low_bd_ : ∀ (bs : List Int) (v : Int), 0 ≤ v ∧ v < 4294967296 → 0 ≤ bs.foldl (fun v x => bits BinOp.or IntKind.u32 (IntKind.u32.wrap (v * 256)) x) v ∧ bs.foldl (fun v x => bits BinOp.or IntKind.u32 (IntKind.u32.wrap (v * 256)) x) v < 4294967296
  | [], v, h => h
  | x :: r, v, h => low_bd_ r _ ⟨bits_lo_u32 _ _ _, by have := bits_hi_u32 BinOp.or (IntKind.u32.wrap (v * 256)) x; show bits BinOp.or IntKind.u32 (IntKind.u32.wrap (v * 256)) x < 4294967296; omega⟩
theorem low_bd (bs : List Int) : 0 ≤ lowS3 bs ∧ lowS3 bs < 4294967296 := low_bd_ bs 0 ⟨by decide, by decide⟩
theorem rev_bd (mk : Int) (bs : List Int) (r : Rev) (h : revS mk bs = some r) (hb : Byt bs) :
    1 ≤ r.m.w ∧ r.m.w ≤ 4 ∧ 0 ≤ r.low ∧ r.low < 4294967296 ∧ 1 ≤ r.at_ ∧ r.at_ + 8 ≤ r.x.length ∧ r.x.length ≤ bs.length ∧ Byt r.x ∧ 0 ≤ r.m.s ∧ r.m.s ≤ 2 ∧ r.tok.length ≤ 32 ∧ r.x.length = r.en := by
  unfold revS at h
  cases hp : parseS bs with
  | none => rw [hp] at h; cases h
  | some q =>
    obtain ⟨m, tok, a, b⟩ := q
    rw [hp] at h
    obtain ⟨p1, p2, p3, p4, p5, p6⟩ := parse_bd bs m tok a b hp
    injection h with h
    subst h
    have hf : 0 ≤ firstU mk bs m a.toNat ∧ firstU mk bs m a.toNat < 256 := xorB_bd _ _
    have hxl : (turnB (bs.take b.toNat) (maskS mk (samS bs a.toNat)) a.toNat (firstU mk bs m a.toNat % 4 + 1).toNat (mbits m.s)).length = b.toNat := by rw [turnB_len, List.length_take]; omega
    refine ⟨by show 1 ≤ firstU mk bs m a.toNat % 4 + 1; omega, by show firstU mk bs m a.toNat % 4 + 1 ≤ 4; omega, (low_bd _).1, (low_bd _).2, by show 1 ≤ a.toNat + _; omega, ?_, ?_, turnB_byt _ _ _ _ _ (hb.take _), p4, p5, p6, hxl⟩
    · show a.toNat + (firstU mk bs m a.toNat % 4 + 1).toNat + 8 ≤ _
      simp only; rw [hxl]; omega
    · simp only; rw [hxl]; omega
theorem unmask_any (sk mk : Int) (A : Option Addr) (n c : Nat) (bs : List Int) (w : World) (hr : Rd w w.heap.size A n bs) (hn : n ≤ 1000000) (hnc : n ≤ c) (hcm : c ≤ maxLen) (hA : A = none → c = 0) (k0 : 0 ≤ mk) (k1 : mk < 18446744073709551616) :
    Calls Try.prog 38 #[.agg (kL sk mk).toArray, .slice A n c] w (UnmPost mk bs w) := by
  cases h : parseS bs with
  | none => exact unmask_no sk mk A n c bs w hr hn hnc hcm hA k0 k1 h
  | some q =>
    obtain ⟨m, tok, a, b⟩ := q
    exact unmask_yes sk mk A n c bs w hr hn hnc hcm hA k0 k1 m tok a b h
/-- What Reveal says. -/
def outS (mk : Int) (bs : List Int) : HN × List Int × Int × Int := match revS mk bs with | none => (.zero, [], 0, 12) | some r => (r.m, r.tok, r.low, 0)
theorem UnmPost.open_ {mk : Int} {bs : List Int} {w w' : World} {e : Ending} (h : UnmPost mk bs w e w') (hb : Byt bs) : ∃ d s t, e = .returned (.tuple #[plV (outS mk bs).1 d (outS mk bs).2.2.1 s t, .int .i64 (outS mk bs).2.2.2]) ∧
    InD w' (fun b => w.heap.size ≤ b) d (outS mk bs).2.1 ∧ (outS mk bs).1.wf ∧ (0 ≤ (outS mk bs).2.2.1 ∧ (outS mk bs).2.2.1 < 4294967296) ∧ (∀ r, revS mk bs = some r → Sld w' s (r.x.take r.at_) ∧ Sld w' t (r.x.drop r.at_)) ∧ Below w.heap.size w w' := by
  unfold UnmPost at h
  unfold outS
  cases hr : revS mk bs with
  | none =>
    rw [hr] at h
    exact ⟨_, _, _, h.1, inD_nil _ _, HN.zero_wf, ⟨by decide, by decide⟩, (fun r hh => by cases hh), h.2⟩
  | some r =>
    rw [hr] at h
    obtain ⟨⟨d, s, t, h1, h2, h3, h4, h5⟩, hb'⟩ := h
    have hbd := rev_bd mk bs r hr hb
    exact ⟨d, s, t, h1, h2, h3, ⟨hbd.2.2.1, hbd.2.2.2.1⟩, fun r' hh => by injection hh with hh; subst hh; exact ⟨h4, h5⟩, hb'⟩
set_option maxRecDepth 100000 in
theorem cut9_any (A : Option Addr) (n c : Nat) (bs : List Int) (w : World) (hr : Rd w w.heap.size A n bs) (hn : n ≤ 1000000) (hA : A = none → c = 0) :
    Calls Try.prog 18 #[.slice A n c] w fun e w' => (e = .returned (.tuple #[.int .i64 (match parseS bs with | none => 0 | some x => x.2.2.2), .bool (parseS bs).isSome])) ∧ Below w.heap.size w w' := by
  have hpa := hparse_any A n c bs w hr hn hA
  have hpb : ∃ m tok a b why, (match parseS bs with | none => (0 : Int) | some x => x.2.2.2) = b ∧ (parseS bs).isSome = decide (why = 0) ∧ Calls Try.prog 42 #[.slice A n c] w fun e w' => ∃ d, e = .returned (.tuple #[hdV m d, .int .i64 a, .int .i64 b, .int .i64 why]) ∧ InD w' (fun b => w.heap.size ≤ b) d tok ∧ Below w.heap.size w w' := by
    cases hp : parseS bs with
    | none => exact ⟨.zero, [], 0, 0, 12, rfl, rfl, hpa.mono fun e w' h => by unfold HPPost at h; rw [hp] at h; exact ⟨_, h.1, inD_nil _ _, h.2⟩⟩
    | some x => exact ⟨x.1, x.2.1, x.2.2.1, x.2.2.2, 0, rfl, rfl, hpa.mono fun e w' h => by unfold HPPost at h; rw [hp] at h; obtain ⟨⟨d, h1, h2, _⟩, h3⟩ := h; exact ⟨d, h1, h2, h3⟩⟩
  obtain ⟨m, tok, a, b, why, e1, e2, hpc⟩ := hpb
  rw [e1, e2]
  have HPC := Lib.hid hpc
  clear hpa hpc e1 e2
  go_enter Try.func18, Try.ntmps18
  go_wp2_with fail
  refine HPC.out.mono ?_
  rintro e w3 ⟨d, rfl, hd, hb3⟩
  have hA3 : At (w3.alloc (.cells #[.int .i64 0, .int .u8 0, .int .u8 0, .int .u8 0, .int .u8 0, .int .u8 0, .int .u8 0, .int .u8 0, .int .u8 0, .int .u8 0, .int .u8 0, .int .u8 0, .int .u8 0, .int .u8 0, .int .u8 0, .int .u8 0, .int .u8 0, .slice none 0 0, .int .i64 0, .bool false] 30)) w3.heap.size 30 (hdL .zero .nil) := At.new w3 30 (hdL .zero .nil)
  have hb4 := hb3.alloc hb3.size (.cells #[.int .i64 0, .int .u8 0, .int .u8 0, .int .u8 0, .int .u8 0, .int .u8 0, .int .u8 0, .int .u8 0, .int .u8 0, .int .u8 0, .int .u8 0, .int .u8 0, .int .u8 0, .int .u8 0, .int .u8 0, .int .u8 0, .int .u8 0, .slice none 0 0, .int .i64 0, .bool false] 30)
  have hvv : hdV m d = .agg (hdL m d).toArray := rfl
  rw [hvv]
  have hLo : (hdL m d).all (·.oneCell') = true := rfl
  obtain ⟨L, hL⟩ : ∃ L, hdL m d = L := ⟨_, rfl⟩
  have hLl : L.length = 20 := by rw [← hL]; rfl
  rw [hL] at hLo ⊢
  have HLL := Lib.hid hLl
  clear hL hLl hvv
  go_wp2_with (first | ((with_reducible refine at_sth ?_); refine st_hd w3.heap.size (hdL .zero .nil) L (by rfl) (by rfl) hA3 rfl HLL.out hLo ?_; intro w4 hA4 hk4) | fail)
  refine bodyPost_ret (results_tmp2 rfl _ _ _) rfl ?_
  exact ⟨rfl, hk4.below hb4 hb4.size (by intro j hj; subst hj; exact hb3.size)⟩
theorem At.pre {w : World} {p : Nat} {T : TypeId} {l r : List Value} (h : At w p T (l ++ r)) : w.rangeAt p 0 l := fun j v hv => by
  rw [Nat.zero_add, h.cell, List.getElem?_append_left (by have := (List.getElem?_eq_some_iff.1 hv).1; exact this), hv]
end
section
set_option linter.unusedVariables false
open Go.RowKit
end
section
set_option linter.unusedVariables false
open Go.RowKit
end
end Go.Proofs.Ytehdilgnlhhjdaa
