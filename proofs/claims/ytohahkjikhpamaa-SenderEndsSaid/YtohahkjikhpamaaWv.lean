/-
  How a frame's Kind is written; numbers one behind the other (frame.writtenKind, writeVars).
-/
import Derived.Test.YtohahkjikhpamaaMq12
import Derived.Test.YtohahkjikhpamaaMq14
namespace Go.Proofs.Ytohahkjikhpamaa
set_option linter.unusedVariables false
set_option linter.unusedSimpArgs false
open Go.RowKit
/-- The slice value with address A and n elements reads as the numbers xs, which are small, in a block that P allows. -/
def UsP (w : World) (P : Nat → Prop) (A : Option Addr) (n : Nat) (xs : List Int) : Prop :=
  xs.length = n ∧ (∀ x ∈ xs, 0 ≤ x ∧ x < 18446744073709551616) ∧ (0 < n → ∃ b off, A = some ⟨b, off, none⟩ ∧ b < w.heap.size ∧ P b ∧ ∀ i x, xs[i]? = some x → w.cell? ⟨b, off + i, none⟩ = some (.int .u64 x))
theorem UsP.kept {S P : Nat → Prop} {w w' : World} {n : Nat} {A : Option Addr} {xs : List Int} (h : UsP w P A n xs) (k : Kept S w w') (hs : ∀ b, P b → ¬ S b) : UsP w' P A n xs := by
  refine ⟨h.1, h.2.1, fun hn => ?_⟩
  obtain ⟨b, off, e, hb, hp, hc⟩ := h.2.2 hn
  refine ⟨b, off, e, Nat.lt_of_lt_of_le hb k.size, hp, fun i r hr => ?_⟩
  rw [k.cell (p := ⟨b, _, none⟩) hb (hs b hp)]
  exact hc i r hr
theorem UsP.new (w : World) (P : Nat → Prop) (T : TypeId) (xs : List Int) (hx : ∀ x ∈ xs, 0 ≤ x ∧ x < 18446744073709551616) (cs : Array Value) (hcs : cs = (xs.map (Value.int .u64)).toArray) (g : Nat) (hg : g = w.heap.size) (hP : P g) :
    UsP (w.alloc (.cells cs T)) P (some ⟨g, 0, none⟩) xs.length xs := by
  subst hcs; subst hg
  refine ⟨rfl, hx, fun _ => ⟨_, 0, rfl, by simp, hP, fun i x hi => ?_⟩⟩
  have := (At.new w T (xs.map (Value.int .u64))).cell i
  rw [Nat.zero_add, this, List.getElem?_map, hi]; rfl
def putL (xs : List Int) : List Int := xs.flatMap putS
theorem putL_take (xs : List Int) (k : Nat) (x : Int) (h : xs[k]? = some x) : putL (xs.take (k + 1)) = putL (xs.take k) ++ putS x := by
  obtain ⟨hk, e⟩ := List.getElem?_eq_some_iff.1 h
  unfold putL
  rw [List.take_succ_eq_append_getElem hk, List.flatMap_append, e]; simp
theorem putL_len (xs : List Int) : (putL xs).length ≤ 8 * xs.length := by
  induction xs with
  | nil => simp [putL]
  | cons x t ih =>
    unfold putL at *
    rw [List.flatMap_cons, List.length_append, putS_len, List.length_cons]
    have := size_le x
    omega
set_option maxRecDepth 100000 in
set_option maxHeartbeats 1000000 in
theorem wvars_any (base p : Nat) (T : TypeId) (v : Value) (bs xs : List Int) (A : Option Addr) (n c : Nat) (w : World) (h : Wtr w base p T v bs) (hl : bs.length ≤ 10000000000000) (hn : n ≤ 10) (hnc : n ≤ c) (hr : UsP w (fun b => ¬ WS p v b) A n xs) (hx : ∀ x ∈ xs, x ≤ 4611686018427387903) (hbase : base ≤ w.heap.size) :
    Calls Try.prog 64 #[.pointer (some ⟨p, 0, none⟩), .slice A n c] w (WPost (.tuple #[]) w base p T v (bs ++ putL xs)) := by
  have HL := Lib.hid hr.1
  have HX := Lib.hid hx
  have HR := Lib.hid hr
  have HW := Lib.hid h
  clear hx hr h
  go_enter Try.func64, Try.ntmps64
  go_wp2
  go_loopw [8] (fun i wr => ∃ (k : Nat) (v' : Value), k ≤ n ∧ i = .int .i64 k ∧ Hid (WSt w base p T v v' (bs ++ putL (xs.take k)) wr)) (fun i _ => n - (intOf i).toNat)
  case atStart => exact ⟨0, v, by omega, rfl, Lib.hid (by simpa [putL] using WSt.refl HW.out)⟩
  case round =>
    obtain ⟨k, v', hk, rfl, hst⟩ := hrel
    by_cases hlt : k < n
    · obtain ⟨b, off, rfl, hb, hP, hc⟩ := HR.out.2.2 (by omega)
      obtain ⟨x, hx⟩ : ∃ x, xs[k]? = some x := ⟨_, List.getElem?_eq_getElem (by rw [HL.out]; exact hlt)⟩
      have hxm := List.mem_of_getElem? hx
      have hx0 := (HR.out.2.1 x hxm).1
      have hx1 := HX.out x hxm
      have ck : wr.cell? ⟨b, off + k, none⟩ = some (.int .u64 x) := (hst.out.2.2.cell (p := ⟨b, _, none⟩) hb hP).trans (hc k x hx)
      have hpl := putL_len (xs.take k)
      have htl := List.length_take_le k xs
      have hlen : (bs ++ putL (xs.take k)).length ≤ 100000000000000 := by rw [List.length_append]; omega
      have hbs : base ≤ wr.heap.size := Nat.le_trans hbase hst.out.2.2.size
      have HT := Lib.hid (putL_take xs k x hx)
      have hc0 : n ≤ c := hnc
      clear hc hx hpl htl
      go_wp2_with fail
      refine (wvar_yes base p T v' _ x wr hst.out.1 hlen hx0 hx1 hbs).mono ?_
      rintro e w2 hw2
      obtain ⟨v2, rfl, hst2⟩ := hst.out.step hw2
      go_wp2_with fail
      go_roundw
      case rel => exact ⟨k + 1, v2, by omega, by go_num, Lib.hid (by rw [HT.out, ← List.append_assoc]; exact hst2)⟩
      case measure => simp [intOf]; omega
    · obtain rfl : k = n := by omega
      have HT := Lib.hid (show putL (xs.take k) = putL xs by rw [List.take_of_length_le (by rw [HL.out]; exact Nat.le_refl _)])
      go_wp2_with fail
      go_end0
      have := hst.out.post (.tuple #[])
      rw [HT.out] at this
      exact this
def wkS (m : FN) : Int := if m.k = 8 then 10 + (if 0 < m.o then 4 else 0) + (if m.fin then 1 else 0) else m.k
set_option maxRecDepth 100000 in
theorem wk_any (m : FN) (d r : Sl) (w : World) (hk0 : 0 ≤ m.k) (hk1 : m.k ≤ 30) (ho : 0 ≤ m.o) : Calls Try.prog 62 #[frV m d r] w (FrPost (.int .u64 (wkS m)) w) := by
  obtain ⟨k, s, o, fin, l, c, f, q, y, c0, c1, c2, c3, c4, c5, c6, c7⟩ := m
  obtain ⟨dA, dn, dc⟩ := d
  obtain ⟨rA, rn, rc⟩ := r
  simp only [frV, frL]
  simp only at hk0 hk1 ho
  have hb : Below w.heap.size w (w.alloc (.cells #[.int .i64 k, .int .u64 s, .int .u64 o, .slice dA dn dc, .bool fin, .int .u64 l, .int .u64 c, .int .u64 f, .int .u64 q, .int .u64 y, .slice rA rn rc,
      .int .u8 c0, .int .u8 c1, .int .u8 c2, .int .u8 c3, .int .u8 c4, .int .u8 c5, .int .u8 c6, .int .u8 c7] 43)) := (Below.refl _ _).alloc (Nat.le_refl _) _
  have HB := Lib.hid hb; clear hb
  by_cases hk : k = 8
  · subst hk
    rcases Int.lt_or_le 0 o with ho1 | ho1
    · have hd : decide (0 < o) = true := by simpa using ho1
      cases fin
      · have HG := Lib.hid (show wkS ⟨8, s, o, false, l, c, f, q, y, c0, c1, c2, c3, c4, c5, c6, c7⟩ = 14 from by simp [wkS, ho1])
        go_enter Try.func62, Try.ntmps62
        go_wp2
        go_ret
        exact ⟨by rw [HG.out]; rfl, HB.out⟩
      · have HG := Lib.hid (show wkS ⟨8, s, o, true, l, c, f, q, y, c0, c1, c2, c3, c4, c5, c6, c7⟩ = 15 from by simp [wkS, ho1])
        go_enter Try.func62, Try.ntmps62
        go_wp2
        go_ret
        exact ⟨by rw [HG.out]; rfl, HB.out⟩
    · have hd : decide (0 < o) = false := by simpa using ho1
      cases fin
      · have HG := Lib.hid (show wkS ⟨8, s, o, false, l, c, f, q, y, c0, c1, c2, c3, c4, c5, c6, c7⟩ = 10 from by simp [wkS, show ¬ 0 < o by omega])
        go_enter Try.func62, Try.ntmps62
        go_wp2
        go_ret
        exact ⟨by rw [HG.out]; rfl, HB.out⟩
      · have HG := Lib.hid (show wkS ⟨8, s, o, true, l, c, f, q, y, c0, c1, c2, c3, c4, c5, c6, c7⟩ = 11 from by simp [wkS, show ¬ 0 < o by omega])
        go_enter Try.func62, Try.ntmps62
        go_wp2
        go_ret
        exact ⟨by rw [HG.out]; rfl, HB.out⟩
  · have HG := Lib.hid (show wkS ⟨k, s, o, fin, l, c, f, q, y, c0, c1, c2, c3, c4, c5, c6, c7⟩ = k from by unfold wkS; rw [if_neg hk])
    have hk' : (k != 8) = true := by simpa using hk
    go_enter Try.func62, Try.ntmps62
    go_wp2
    go_ret
    exact ⟨by rw [HG.out]; rfl, HB.out⟩
end Go.Proofs.Ytohahkjikhpamaa
