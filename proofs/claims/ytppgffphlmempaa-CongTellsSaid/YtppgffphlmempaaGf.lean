/-
  CongTells: its walk.
-/
import Derived.Test.YtppgffphlmempaaGd
import Derived.Test.YtppgffphlmempaaRefInts
namespace Go.Proofs.Ytppgffphlmempaa
set_option linter.unusedVariables false
set_option linter.unusedSimpArgs false
open Go.RowKit
/-- What the row of the call's own is, i calls of it. -/
structure TlG (w0 wr : World) (i : Nat) (v : Value) (M : List AskD) : Prop where
  own : OwnA wr w0.heap.size v M
  len : M.length = i
  bl : Below w0.heap.size w0 wr
set_option maxRecDepth 100000 in
set_option maxHeartbeats 8000000 in
theorem gtells_law (A : Option Addr) (n c : Nat) (L : List AskD) (w : World) (hu : Asks w w.heap.size A n c L) (hc8 : c * 32 ≤ 140737488351232) :
    Calls Try.prog 4 #[.slice A n c] w fun e w' => e = .returned (.bool true) ∧ Below w.heap.size w w' := by
  have HU := Lib.hid hu
  have HUL := Lib.hid hu.1
  have hnc := hu.2.1
  have hcm := hu.2.2.1
  unfold maxLen at hcm
  have HI : Hid (TlG w w 0 (.slice none 0 0) []) := Lib.hid ⟨OwnA.nil_ _ _, rfl, Below.refl _ _⟩
  clear hu
  go_enter Try.func4, Try.ntmps4
  go_wp2
  go_loopg [3, 4] n (fun kx s3 s4 wr => ∃ (i : Nat) (v : Value) (M : List AskD), v = s3 ∧ s4 = .int .i64 i ∧ i ≤ n ∧ n - i ≤ kx ∧ Hid (TlG w wr i v M))
  case atStart => exact ⟨0, _, _, rfl, rfl, by omega, by omega, HI⟩
  case round =>
    clear HI
    obtain ⟨i, v, M, rfl, rfl, hin, hkx, hT⟩ := hrel
    by_cases hgo : i < n
    · obtain ⟨d, hx⟩ : ∃ d, L[i]? = some d := ⟨_, List.getElem?_eq_getElem (by rw [HUL.out]; exact hgo)⟩
      obtain ⟨b, off, rfl, hb, hc⟩ := HU.out.2.2.2.2 (by omega)
      have ha := (hc i d hx).below hT.out.bl hb
      have hwf := ha.wf
      unfold AskD.wf I64 at hwf
      obtain ⟨hwk, hws, hwt, hwn⟩ := hwf
      have c0 := ha.ck
      have c1 := ha.cs
      have c2 := ha.ct
      have c3 := ha.cn
      clear hc ha hx
      obtain ⟨k, x, t, nw⟩ := d
      simp only at c0 c1 c2 c3 hwk hws hwt hwn
      have hiz : (i : Int) < (n : Int) := by omega
      have hyb := withinS_bd x 0 600 (by decide)
      have HW := Lib.hid (fun W => (within_any x 0 600 W hws.1 (by omega) (by decide) (by decide) (by decide)).mono fun e w' h => (show e = .returned (.int .i64 (withinS x 0 600)) ∧ w' = W from ⟨h.1, h.2.symm⟩))
      obtain ⟨y, hy⟩ : ∃ y, withinS x 0 600 = y := ⟨_, rfl⟩
      rw [hy] at HW hyb
      have ht0 : -3 < t.tmod 3 := Int.lt_tmod_of_pos t (by omega)
      have ht1 : t.tmod 3 < 3 := Int.tmod_lt_of_pos t (by omega)
      clear hy
      go_wp2
      have hm3 : IntKind.i64.wrap ((i : Int) - t.tmod 3) = (i : Int) - t.tmod 3 := by rw [IntKind.wrap_i64]; omega
      go_region_with (go_at_call 12; refine (HW.out _).mono ?_; rintro e w9 ⟨rfl, rfl⟩)
      all_goals
        have hA4 : At ((wr.alloc (.cells #[.int .i64 k, .int .i64 y, .int .i64 ((i : Int) - t.tmod 3), .int .i64 i] 25)).drew) wr.heap.size 25 (acC ⟨k, y, (i : Int) - t.tmod 3, i⟩) := At.new wr _ _
        have hB4 : Below wr.heap.size wr ((wr.alloc (.cells #[.int .i64 k, .int .i64 y, .int .i64 ((i : Int) - t.tmod 3), .int .i64 i] 25)).drew) := ((Below.refl _ wr).alloc (Nat.le_refl _) _).drew
        generalize World.drew (wr.alloc (.cells #[.int .i64 k, .int .i64 y, .int .i64 ((i : Int) - t.tmod 3), .int .i64 i] 25)) = w4 at hA4 hB4 ⊢
        have e0 : w4.cell? ⟨wr.heap.size, 0, none⟩ = some (.int .i64 k) := hA4.cell 0
        have e1 : w4.cell? ⟨wr.heap.size, 1, none⟩ = some (.int .i64 y) := hA4.cell 1
        have e2 : w4.cell? ⟨wr.heap.size, 2, none⟩ = some (.int .i64 ((i : Int) - t.tmod 3)) := hA4.cell 2
        have e3 : w4.cell? ⟨wr.heap.size, 3, none⟩ = some (.int .i64 i) := hA4.cell 3
        obtain ⟨z, hz⟩ : ∃ z, (i : Int) - t.tmod 3 = z := ⟨_, rfl⟩
        have hzb : I64 z := by unfold I64; omega
        rw [hz] at e2 ⊢
        have hwd : ∀ d ∈ ([⟨k, y, z, i⟩] : List AskD), d.wf := fun d hd => by
          rw [List.mem_singleton] at hd
          subst hd
          unfold AskD.wf I64 at *
          simp only
          omega
        have hb5 := hT.out.bl.trans ((hB4.mono hT.out.bl.size).alloc (Nat.le_trans hT.out.bl.size hB4.size) (.cells #[.int .i64 k, .int .i64 y, .int .i64 z, .int .i64 i] 25))
        have ho5 : OwnA (w4.alloc (.cells #[.int .i64 k, .int .i64 y, .int .i64 z, .int .i64 i] 25)) w.heap.size v M := hT.out.own.keep fun j hj => (Below.heap_alloc w4 _ j (Nat.lt_of_lt_of_le (hT.out.own.lt j hj).2 hB4.size)).trans (hB4.block j (hT.out.own.lt j hj).2)
        have hnew : ∀ j u, (askC [⟨k, y, z, i⟩])[j]? = some u → (w4.alloc (.cells #[.int .i64 k, .int .i64 y, .int .i64 z, .int .i64 i] 25)).cell? ((⟨w4.heap.size, 0, none⟩ : Addr).add j) = some u := fun j u hj => by
          rw [Addr.add_lit, cell_of_row _ _ _ _ _ _ (heap_alloc_new w4 _), Nat.zero_add]
          simpa [askC, acC] using hj
        have HWD := Lib.hid hwd
        have HNEW := Lib.hid hnew
        have HO5 := Lib.hid ho5
        have HB5 := Lib.hid hb5
        clear hwd hnew ho5 hb5 hA4 hB4 hz hm3 hzb
        go_wp2_with (at_builtin; refine wpList_append3 rfl (.tmp 28) (.tmp 30) rfl w.heap.size v M [⟨k, y, z, i⟩] rfl HO5.out ⟨w4.heap.size, 0, none⟩ 1 1 rfl rfl (by simp) HNEW.out HWD.out (by rw [hT.out.len]; simp; omega) HB5.out.size ?_; intro v6 w6 hO6 hg6; have h6 : Hid (TlG w w6 (i + 1) v6 (M ++ [⟨k, y, z, i⟩])) := Lib.hid ⟨hO6, by rw [List.length_append, hT.out.len]; rfl, HB5.out.grown hg6 HB5.out.size (fun j hj => (HO5.out.lt j hj).1)⟩; clear hO6 hg6)
        go_roundg (n - (i + 1))
        case measure => omega
        case rel => exact ⟨i + 1, v6, _, rfl, by simp, by omega, by omega, h6⟩
    · obtain rfl : i = n := by omega
      clear hgo
      have hiz : ¬ (i : Int) < (i : Int) := by omega
      have HP := Lib.hid (gplay_any A i c L w.heap.size wr (HU.out.below hT.out.bl) hT.out.bl.size)
      obtain ⟨A4, c4, rfl, h4⟩ := hT.out.own.asks
      have H4 := Lib.hid h4
      have HQ := Lib.hid (fun (W : World) (hW : Below wr.heap.size wr W) => gplay_any A4 M.length c4 M wr.heap.size W (H4.out.below hW) hW.size)
      clear h4
      go_wp2_with (first
        | (go_at_call 10; (with_reducible refine HP.out.mono ?_); rintro e w5 ⟨rfl, hB5⟩; have H5 := Lib.hid hB5; clear hB5)
        | (go_at_call 10; (with_reducible refine (HQ.out _ H5.out).mono ?_); rintro e w6 ⟨rfl, hB6⟩; have H6 := Lib.hid (H5.out.trans (hB6.mono H5.out.size)); clear hB6)
        | (go_at_call 11; refine (gknown_any _).mono ?_; rintro e w7 ⟨rfl, hB7⟩; have H7 := Lib.hid (H6.out.trans (hB7.mono H6.out.size)); clear hB7))
      go_ret
      exact ⟨rfl, hT.out.bl.trans (H7.out.mono hT.out.bl.size)⟩
end Go.Proofs.Ytppgffphlmempaa
