/-
  Ranges that may be an acknowledgement's: read out of memory, held to be right (sent.mayBe), as a set (sent.setOf); the closures of Ack.
-/
import Derived.Test.YtpihgikcgkipaaaUd
import Derived.Test.YtpihgikcgkipaaaQk
namespace Go.Proofs.Ytpihgikcgkipaaa
set_option linter.unusedVariables false
set_option linter.unusedSimpArgs false
open Go.RowKit
/-- The slice value with address A and n elements reads as the ranges rs, in a block that P allows. -/
structure RnP (w : World) (P : Nat → Prop) (A : Option Addr) (n : Nat) (rs : RL) : Prop where
  len : rs.length = n
  wd : WdL rs
  at_ : 0 < n → ∃ b off, A = some ⟨b, off, none⟩ ∧ b < w.heap.size ∧ P b ∧ ∀ i r, rs[i]? = some r → w.cell? ⟨b, off + i * 2, none⟩ = some (.int .u64 r.1) ∧ w.cell? ⟨b, off + i * 2 + 1, none⟩ = some (.int .u64 r.2)
section
variable {S P P' : Nat → Prop} {w w' : World} {n : Nat} {A : Option Addr} {rs : RL}
theorem RnP.none_ (w : World) (P : Nat → Prop) (A : Option Addr) : RnP w P A 0 [] := ⟨rfl, WdL.nil_, fun h => absurd h (by omega)⟩
theorem RnP.kept (h : RnP w P A n rs) (k : Kept S w w') (hs : ∀ b, P b → ¬ S b) : RnP w' P A n rs := by
  refine ⟨h.len, h.wd, fun hn => ?_⟩
  obtain ⟨b, off, e, hb, hp, hc⟩ := h.at_ hn
  refine ⟨b, off, e, Nat.lt_of_lt_of_le hb k.size, hp, fun i r hr => ?_⟩
  rw [k.cell (p := ⟨b, _, none⟩) hb (hs b hp), k.cell (p := ⟨b, _, none⟩) hb (hs b hp)]
  exact hc i r hr
theorem RnP.below (h : RnP w P A n rs) (k : Below w.heap.size w w') : RnP w' P A n rs := h.kept (Kept.of_below k (fun _ => False)) (fun _ _ h => h)
theorem RnP.mono (h : RnP w P A n rs) (hp : ∀ b, b < w.heap.size → P b → P' b) : RnP w P' A n rs :=
  ⟨h.len, h.wd, fun hn => by
    obtain ⟨b, off, e, hb, hp', hc⟩ := h.at_ hn
    exact ⟨b, off, e, hb, hp b hb hp', hc⟩⟩
theorem RnP.cut (h : RnP w P A n rs) {m : Nat} (hm : m ≤ n) : RnP w P A m (rs.take m) := by
  refine ⟨by rw [List.length_take, h.len]; omega, h.wd.take m, fun h0 => ?_⟩
  obtain ⟨b, off, e, hb, hp, hc⟩ := h.at_ (by omega)
  refine ⟨b, off, e, hb, hp, fun i r hr => hc i r ?_⟩
  rw [List.getElem?_take] at hr
  split at hr
  · exact hr
  · cases hr
theorem RnP.of_own {base : Nat} {v : Value} {l : RL} (h : OwnL w base v l) : ∃ A c, v = .slice A l.length c ∧ l.length ≤ c ∧ c ≤ maxLen ∧ RnP w (fun b => base ≤ b ∧ ∃ cur, At w b 38 cur) A l.length l := by
  obtain ⟨A, c, e, h1, h2, h3, h4⟩ := ownF_open h.own
  refine ⟨A, c, e, h1, h2, rfl, h.wd, fun hn => ?_⟩
  rcases h4 with ⟨_, h0, _⟩ | ⟨g, cur, rfl, hb, hlt, hA, hl, ht⟩
  · omega
  · refine ⟨g, 0, rfl, hlt, ⟨hb, _, hA⟩, fun i r hr => ?_⟩
    obtain ⟨g', c', e', _, _, c0, c1⟩ := h.cell hr
    rw [e] at e'
    injection e' with e1
    injection e1 with e1
    injection e1 with e1
    subst e1
    rw [Nat.zero_add]
    exact ⟨c0, c1⟩
end
/-- Rising ranges, none of none. -/
def OkAt (rs : RL) (i : Nat) : Prop := ∀ r, rs[i]? = some r → r.1 < r.2 ∧ ∀ s, 0 < i → rs[i - 1]? = some s → s.2 < r.1
def MayR (rs : RL) : Prop := rs ≠ [] ∧ ∀ i, i < rs.length → OkAt rs i
theorem may_chain {rs : RL} (h : MayR rs) : ∀ (d i : Nat) (a b : Int × Int), rs[i]? = some a → rs[i + d + 1]? = some b → a.2 < b.1
  | 0, i, a, b, ha, hb => by
    have hlt := (List.getElem?_eq_some_iff.1 hb).1
    exact (h.2 _ hlt b hb).2 a (by omega) (by simpa using ha)
  | d + 1, i, a, b, ha, hb => by
    have hlt := (List.getElem?_eq_some_iff.1 hb).1
    obtain ⟨c, hc⟩ : ∃ c, rs[i + d + 1]? = some c := ⟨_, List.getElem?_eq_getElem (by omega)⟩
    have h1 := may_chain h d i a c ha hc
    have h2 := (h.2 _ (by omega) c hc).1
    have h3 := (h.2 _ hlt b hb).2 c (by omega) (by rw [show i + (d + 1) + 1 - 1 = i + d + 1 by omega]; exact hc)
    omega
theorem may_pair {rs : RL} (h : MayR rs) : rs.Pairwise (fun a b => a.2 < b.1) := by
  rw [List.pairwise_iff_getElem]
  intro i j hi hj hij
  have := may_chain h (j - i - 1) i rs[i] rs[j] (List.getElem?_eq_getElem hi) (by rw [show i + (j - i - 1) + 1 = j by omega]; exact List.getElem?_eq_getElem hj)
  exact this
theorem may_last {rs : RL} (h : MayR rs) {z : Int × Int} (hz : rs[rs.length - 1]? = some z) : ∀ r ∈ rs, r.2 ≤ z.2 := fun r hr => by
  obtain ⟨i, hi⟩ := List.mem_iff_getElem?.1 hr
  have hlt := (List.getElem?_eq_some_iff.1 hi).1
  have hzo := (h.2 _ (by omega) z hz).1
  rcases Nat.lt_or_ge i (rs.length - 1) with hl | hl
  · have := may_chain h (rs.length - 1 - i - 1) i r z hi (by rw [show i + (rs.length - 1 - i - 1) + 1 = rs.length - 1 by omega]; exact hz)
    omega
  · rw [show i = rs.length - 1 by omega, hz] at hi
    injection hi with hi
    subst hi
    exact Int.le_refl _
theorem may_gd {rs : RL} (h : MayR rs) (hw : WdL rs) {z : Int × Int} (hz : rs[rs.length - 1]? = some z) (hb : z.2 ≤ 4611686018427387904) : Gd rs :=
  ⟨fun r hr => by
    obtain ⟨i, hi⟩ := List.mem_iff_getElem?.1 hr
    have h1 := (h.2 _ (List.getElem?_eq_some_iff.1 hi).1 r hi).1
    have h2 := may_last h hz r hr
    have h3 := hw r hr
    unfold OkR
    omega, may_pair h⟩
theorem add_last {l : RL} {x : Int × Int} {most : Int} (h : Gd l) (ha : ∀ r ∈ l, r.2 < x.1) (hx : x.1 < x.2) (hb : x.2 ≤ 4611686018427387904) (hm : ((l.length + 1 : Nat) : Int) ≤ most) : addV l x.1 x.2 most = l ++ [x] := by
  unfold addV
  rw [if_pos ⟨hx, hb⟩]
  unfold addL
  have := addGo_abc l [] [] (x.1, x.2) (by simpa using h) ha (fun r hr => by cases hr) (fun r hr => by cases hr) hx
  simp only [List.append_nil] at this
  rw [this]
  have e : growR (x.1, x.2) [] = x := rfl
  rw [e, lst_small (by simpa using hm)]
set_option maxRecDepth 100000 in
theorem cl_ack1 (b base sp : Nat) (most : Int) (v : Value) (rl : RL) (r : PK) (W : World) (hb : b < W.heap.size) (hc : W.cell? ⟨b, 0, none⟩ = some (.pointer (some ⟨sp, 0, none⟩))) (hs : SetV W base sp most v rl) (hn : rl.length ≤ 1000000) (hg : Gd rl) :
    Calls Try.prog 30 (#[.agg (pkC r).toArray] ++ #[.pointer (some ⟨b, 0, none⟩)]) W (SaysB (hasL rl r.n) W) := by
  obtain ⟨n, t, s, a, A, k, c⟩ := r
  have hax : Below W.heap.size W (W.alloc (.cells #[.int .u64 n, .int .i64 t, .int .i64 s, .bool a, .slice A k c] 31)) := (Below.refl _ _).alloc (Nat.le_refl _) _
  have hc2 := (hax.cell (p := ⟨b, 0, none⟩) hb).trans hc
  have HH := Lib.hid (has_any' base sp most v rl _ (hs.below hax) (by omega) hg n)
  have HX := Lib.hid hax
  clear hax hs hn hg
  rw [show Value.agg (pkC ⟨n, t, s, a, A, k, c⟩).toArray = .agg #[.int .u64 n, .int .i64 t, .int .i64 s, .bool a, .slice A k c] from rfl]
  go_enter Try.func30, Try.ntmps30
  go_wp2_with (go_at_call 31; refine HH.out.mono ?_; rintro e w2 ⟨rfl, hB⟩)
  go_ret
  exact ⟨rfl, HX.out.trans (hB.mono HX.out.size)⟩
set_option maxRecDepth 100000 in
theorem cl_ack2 (b p : Nat) (nx ak : Int) (hd : Bool) (v : Value) (r : PK) (W : World) (hb : b < W.heap.size) (hc : W.cell? ⟨b, 0, none⟩ = some (.pointer (some ⟨p, 0, none⟩))) (hs : At W p 61 [.int .u64 nx, .int .u64 ak, .bool hd, v]) (hr : 0 ≤ r.n ∧ r.n < 4611686018427387904) :
    Calls Try.prog 32 (#[.agg (pkC r).toArray] ++ #[.pointer (some ⟨b, 0, none⟩)]) W (SaysB (decide (r.n + 3 ≤ ak)) W) := by
  obtain ⟨n, t, s, a, A, k, c⟩ := r
  simp only at hr
  have hax : Below W.heap.size W (W.alloc (.cells #[.int .u64 n, .int .i64 t, .int .i64 s, .bool a, .slice A k c] 31)) := (Below.refl _ _).alloc (Nat.le_refl _) _
  have hc2 := (hax.cell (p := ⟨b, 0, none⟩) hb).trans hc
  have ca := (hs.alloc (.cells #[.int .u64 n, .int .i64 t, .int .i64 s, .bool a, .slice A k c] 31)).cell 1
  have HX := Lib.hid hax
  have hw : IntKind.u64.wrap (n + 3) = n + 3 := by rw [IntKind.wrap_u64]; omega
  clear hax hs
  rw [show Value.agg (pkC ⟨n, t, s, a, A, k, c⟩).toArray = .agg #[.int .u64 n, .int .i64 t, .int .i64 s, .bool a, .slice A k c] from rfl]
  go_enter Try.func32, Try.ntmps32
  go_wp2
  go_quiet (fail)
  go_wp2
  go_ret
  exact ⟨by first | rfl | simp, belowN HX.out _⟩
theorem bdrew {B : Nat} {a w : World} (h : Below B a w) : Below B a w.drew := ⟨h.os, h.tape, h.output, h.size, h.block⟩
set_option maxRecDepth 100000 in
set_option maxHeartbeats 4000000 in
theorem mayBe_any (P : Nat → Prop) (A : Option Addr) (n c : Nat) (rs : RL) (w : World) (hr : RnP w P A n rs) (hnc : n ≤ c) (hcm : c ≤ maxLen) :
    Calls Try.prog 27 #[.slice A n c] w fun e w' => ∃ b : Bool, e = .returned (.bool b) ∧ (b = true ↔ MayR rs) ∧ Below w.heap.size w w' := by
  have HR := Lib.hid hr
  have hln := hr.len
  have HLN := Lib.hid hln
  unfold maxLen at hcm
  clear hr hln
  go_enter Try.func27, Try.ntmps27
  go_wp2
  go_loopg [7] n (fun kx s7 wr => ∃ (i : Nat), s7 = .int .i64 i ∧ i ≤ n ∧ n - i ≤ kx ∧ Below w.heap.size w wr ∧ ∀ j, j < i → OkAt rs j)
  case atStart => exact ⟨0, rfl, Nat.zero_le _, by omega, Below.refl _ _, fun j h => absurd h (by omega)⟩
  case round =>
    obtain ⟨i, rfl, hin, hkx, hB, hok⟩ := hrel
    by_cases hlt : i < n
    · have hiz : (i : Int) < (n : Int) := by omega
      obtain ⟨r, hi⟩ : ∃ r, rs[i]? = some r := ⟨_, List.getElem?_eq_getElem (by rw [HLN.out]; exact hlt)⟩
      obtain ⟨b, off, rfl, hb, hP, hc⟩ := (HR.out.below hB).at_ (by omega)
      obtain ⟨x, y⟩ := r
      have h0 := (hc i _ hi).1
      have h1 := (hc i _ hi).2
      simp only at h0 h1
      have hd0 := (hB.alloc hB.size (.cells #[.int .u64 x, .int .u64 y] 38))
      have HB := Lib.hid hd0
      have HK := Lib.hid hok
      have HI := Lib.hid hi
      rcases Nat.eq_zero_or_pos i with h0i | h0i
      · have HI0 := Lib.hid (show decide (0 < i) = false from decide_eq_false (by omega))
        rcases Int.lt_or_le x y with hxy | hxy
        rotate_left
        · have hf : ¬ MayR rs := fun hm => by
            have := (hm.2 i (by have := HLN.out; omega) _ HI.out).1
            simp only at this
            omega
          have HF := Lib.hid hf
          have H0 := Lib.hid h0i
          clear hc hf hok hi hB hd0 h0i
          go_wp2
          go_quiet (fail)
          go_wp2
          go_ret
          exact ⟨false, rfl, by simp [HF.out], belowN HB.out _⟩
        · have hk : ∀ j, j < i + 1 → OkAt rs j := fun j hj r hr => by
            obtain rfl : j = i := by omega
            rw [HI.out] at hr
            injection hr with hr
            subst hr
            exact ⟨hxy, fun s h => absurd h (by omega)⟩
          have HK2 := Lib.hid hk
          have H0 := Lib.hid h0i
          clear hc hk hok hi hB hd0 h0i
          have HXN := Lib.hid (show decide (y ≤ x) = false from decide_eq_false (by omega))
          go_wp2
          have hg0 := HI0.out
          have hxn := HXN.out
          go_quiet (fail)
          go_wp2
          go_roundg (n - (i + 1))
          case measure => omega
          case rel => exact ⟨i + 1, by simp, by omega, by omega, belowN HB.out _, HK2.out⟩
      · obtain ⟨⟨x', y'⟩, hj⟩ : ∃ r, rs[i - 1]? = some r := ⟨_, List.getElem?_eq_getElem (by rw [HLN.out]; omega)⟩
        have h3 := (hc (i - 1) _ hj).2
        simp only at h3
        have h3' := (((Below.refl wr.heap.size wr).alloc (Nat.le_refl _) (.cells #[.int .u64 x, .int .u64 y] 38)).cell (p := ⟨b, _, none⟩) hb).trans h3
        have HJ := Lib.hid hj
        have hiz0 : (0 : Int) < (i : Int) := by omega
        have hwi : IntKind.i64.wrap ((i : Int) - 1) = ((i - 1 : Nat) : Int) := by rw [IntKind.wrap_i64]; omega
        have hjz : ((i - 1 : Nat) : Int) < (n : Int) := by omega
        by_cases hbad : y ≤ x ∨ x ≤ y'
        · have hf : ¬ MayR rs := fun hm => by
            have h4 := hm.2 i (by have := HLN.out; omega) _ HI.out
            have h5 := h4.1
            have h6 := h4.2 _ h0i HJ.out
            simp only at h5 h6
            omega
          have HF := Lib.hid hf
          clear hc hf hok hi hB hd0 hj
          rcases Int.lt_or_le x y with hxy | hxy
          · have hxy' : x ≤ y' := by omega
            have HXN := Lib.hid (show decide (y ≤ x) = false from decide_eq_false (by omega))
            clear hbad
            go_wp2
            have hxn := HXN.out
            go_quiet (fail)
            go_wp2
            go_ret
            exact ⟨false, rfl, by simp [HF.out], belowN HB.out _⟩
          · clear hbad
            go_wp2
            go_quiet (fail)
            go_wp2
            go_ret
            exact ⟨false, rfl, by simp [HF.out], belowN HB.out _⟩
        · have hxy : x < y := by omega
          have hxy' : y' < x := by omega
          have hk : ∀ j, j < i + 1 → OkAt rs j := fun j hj r hr => by
            rcases Nat.lt_or_ge j i with h | h
            · exact HK.out j h r hr
            · obtain rfl : j = i := by omega
              rw [HI.out] at hr
              injection hr with hr
              subst hr
              refine ⟨hxy, fun s _ hs => ?_⟩
              rw [HJ.out] at hs
              injection hs with hs
              subst hs
              exact hxy'
          have HK2 := Lib.hid hk
          have HXN := Lib.hid (show decide (y ≤ x) = false from decide_eq_false (by omega))
          have HXM := Lib.hid (show decide (x ≤ y') = false from decide_eq_false (by omega))
          clear hc hk hok hi hB hd0 hj hbad
          go_wp2
          have hxn := HXN.out
          have hxm := HXM.out
          go_quiet (fail)
          go_wp2
          go_roundg (n - (i + 1))
          case measure => omega
          case rel => exact ⟨i + 1, by simp, by omega, by omega, belowN HB.out _, HK2.out⟩
    · obtain rfl : i = n := by omega
      have HB := Lib.hid hB
      rcases Nat.eq_zero_or_pos i with h0i | h0i
      · subst h0i
        have hf : ¬ MayR rs := fun hm => hm.1 (List.eq_nil_of_length_eq_zero HLN.out)
        have HF := Lib.hid hf
        clear hf hok hB
        go_wp2
        go_ret
        exact ⟨false, rfl, by simp [HF.out], HB.out⟩
      · have hf : MayR rs := ⟨fun h => by have := HLN.out; rw [h] at this; simp at this; omega, fun j hj => hok j (by have := HLN.out; omega)⟩
        have hiz0 : (0 : Int) < (i : Int) := by omega
        have HF := Lib.hid hf
        clear hf hok hB
        go_wp2
        go_ret
        exact ⟨true, rfl, by simp [HF.out], HB.out⟩
end Go.Proofs.Ytpihgikcgkipaaa
