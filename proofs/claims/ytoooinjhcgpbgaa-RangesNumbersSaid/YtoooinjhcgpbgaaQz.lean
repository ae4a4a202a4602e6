/-
  RangesNumbers: chapter 10's runs.
-/
import Derived.Test.YtoooinjhcgpbgaaQw
import Derived.Test.YtoooinjhcgpbgaaQx
namespace Go.Proofs.Ytoooinjhcgpbgaa
set_option linter.unusedVariables false
set_option linter.unusedSimpArgs false
open Go.RowKit
theorem OwnA.al {w : World} {base : Nat} {v : Value} {L : List AskD} (h : OwnA w base v L) (o : Obj) : OwnA (w.alloc o) base v L := h.keep fun k hk => Below.heap_alloc w o k (h.lt k hk).2
theorem newA (W : World) (M : List AskD) : ∀ j u, (askC M)[j]? = some u → (W.alloc (.cells (askC M).toArray 25)).cell? ((⟨W.heap.size, 0, none⟩ : Addr).add j) = some u := fun j u hj => by
  rw [Addr.add_lit, cell_of_row _ _ _ _ _ _ (heap_alloc_new W _), Nat.zero_add]
  simpa using hj
theorem Asks.up2 {w : World} {B B' : Nat} {A : Option Addr} {n c : Nat} {L : List AskD} (h : Asks w B A n c L) (hb : B ≤ B') : Asks w B' A n c L :=
  ⟨h.1, h.2.1, h.2.2.1, h.2.2.2.1, fun hn => by
    obtain ⟨b, off, e, hlt, hc⟩ := h.2.2.2.2 hn
    exact ⟨b, off, e, Nat.lt_of_lt_of_le hlt hb, hc⟩⟩
def fourA : List AskD := [⟨0, 4611686018427387903, 4611686018427387904⟩, ⟨0, 4611686018427387903, 4611686018427387905⟩, ⟨0, 9, 5⟩, ⟨1, 9, 5⟩]
theorem four_wf : ∀ d ∈ fourA, d.wf := fun d hd => by
  unfold fourA at hd
  simp at hd
  unfold AskD.wf
  rcases hd with rfl | rfl | rfl | rfl <;> simp
set_option maxHeartbeats 4000000 in
set_option maxRecDepth 100000 in
theorem rnumbers_law (w : World) : Calls Try.prog 3 #[] w fun e w' => e = .returned (.bool true) ∧ Below w.heap.size w w' := by
  go_enter Try.func3, Try.ntmps3
  go_wp2
  go_loopg [1, 2] 50 (fun kx s1 s2 wr => ∃ (x : Int) (v : Value) (M : List AskD), v = s1 ∧ s2 = .int .u64 x ∧ 0 ≤ x ∧ x ≤ 50 ∧ (50 - x).toNat ≤ kx ∧ Below w.heap.size w wr ∧ OwnA wr w.heap.size v M ∧ M.length = x.toNat)
  case atStart => exact ⟨0, _, [], rfl, rfl, by omega, by omega, by omega, Below.refl _ _, OwnA.nil_ _ _, rfl⟩
  case round =>
    obtain ⟨x, v, M, rfl, rfl, hx0, hx1, hk, hB, hO, hM⟩ := hrel
    by_cases hlt : x < 50
    · have hxx : 0 ≤ x * 17 ∧ x * 17 ≤ 850 := by omega
      have HO := Lib.hid hO
      have HB := Lib.hid hB
      have HM := Lib.hid hM
      have hwd : ∀ d ∈ ([⟨x % 4, x * 17 % 61, x * 17 % 61 + x % 5⟩] : List AskD), d.wf := fun d hd => by
        rw [List.mem_singleton] at hd
        subst hd
        unfold AskD.wf
        simp only
        omega
      have HW := Lib.hid hwd
      have HNEW := Lib.hid (newA wr [⟨x % 4, x * 17 % 61, x * 17 % 61 + x % 5⟩])
      have HO2 := Lib.hid (hO.al (.cells (askC [⟨x % 4, x * 17 % 61, x * 17 % 61 + x % 5⟩]).toArray 25))
      have HBS := Lib.hid hB.size
      clear hO hB hM hwd
      go_wp2_with (at_builtin; refine wpList_append3 rfl (.tmp 11) (.tmp 25) rfl w.heap.size v M [⟨x % 4, x * 17 % 61, x * 17 % 61 + x % 5⟩] rfl HO2.out ⟨wr.heap.size, 0, none⟩ 1 1 rfl rfl (by simp) HNEW.out HW.out (by have := HM.out; simp; omega) (by have := HBS.out; simp; omega) ?_; intro v2 w2 hown2 hg2; have hb2 : Below w.heap.size w w2 := (HB.out.alloc HBS.out _).grown hg2 (by have := HBS.out; simp; omega) (fun k hk => (HO.out.lt k hk).1); have HOW := Lib.hid hown2; have HB2 := Lib.hid hb2; clear hown2 hg2 hb2)
      go_roundg (49 - x).toNat
      case measure => omega
      case rel => exact ⟨x + 1, v2, _, rfl, rfl, by omega, by omega, by omega, HB2.out, HOW.out, by have := HM.out; simp; omega⟩
    · obtain rfl : x = 50 := by omega
      have HO := Lib.hid hO
      have HB := Lib.hid hB
      have HM := Lib.hid hM
      have HNEW := Lib.hid (newA wr fourA)
      have HO2 := Lib.hid (hO.al (.cells (askC fourA).toArray 25))
      have HBS := Lib.hid hB.size
      clear hO hB hM
      go_wp2_with (at_builtin; refine wpList_append3 rfl (.tmp 27) (.tmp 32) rfl w.heap.size v M fourA rfl HO2.out ⟨wr.heap.size, 0, none⟩ 4 4 rfl rfl (by simp [fourA]) HNEW.out four_wf (by have := HM.out; simp [fourA]; omega) (by have := HBS.out; simp; omega) ?_; intro v2 w2 hown2 hg2; have hb2 : Below w.heap.size w w2 := (HB.out.alloc HBS.out _).grown hg2 (by have := HBS.out; simp; omega) (fun k hk => (HO.out.lt k hk).1); obtain ⟨A2, c2, rfl, ha2⟩ := hown2.asks; generalize (M ++ fourA).length = nn at ha2 ⊢; generalize M ++ fourA = MM at ha2; have HA2 := Lib.hid ha2; have HB2 := Lib.hid hb2; clear hown2 hg2 hb2 ha2)
      go_loopg [3] 9 (fun kx s3 wr' => ∃ (y : Int), s3 = .int .i64 y ∧ -1 ≤ y ∧ y ≤ 8 ∧ (8 - y).toNat ≤ kx ∧ Below w2.heap.size w2 wr')
      case atStart => exact ⟨-1, rfl, by omega, by omega, by omega, Below.refl _ _⟩
      case round =>
        obtain ⟨y, rfl, hy0, hy1, hk2, hB3⟩ := hrel
        by_cases hlt2 : y < 8
        · have HB3 := Lib.hid hB3
          have HP := Lib.hid (play_any y (by omega) A2 _ c2 _ 30 _ ((HA2.out.below hB3).up2 hB3.size))
          clear hB3
          go_wp2_with (go_at_call 7; (with_reducible refine HP.out.mono ?_); rintro e w5 ⟨p5, m5, rfl, hB5⟩; have HB5 := Lib.hid (HB3.out.trans (hB5.mono HB3.out.size)); clear hB5)
          go_roundg (7 - y).toNat
          case measure => omega
          case rel => exact ⟨y + 1, rfl, by omega, by omega, by omega, HB5.out⟩
        · have HB3 := Lib.hid (HB2.out.trans (hB3.mono HB2.out.size))
          clear hB3
          go_wp2_with (go_at_call 8; refine (known_any _).mono ?_; rintro e w6 ⟨rfl, hB6⟩; have HB6 := Lib.hid (HB3.out.trans (hB6.mono HB3.out.size)); clear hB6)
          go_ret
          exact ⟨rfl, HB6.out⟩
end Go.Proofs.Ytoooinjhcgpbgaa
