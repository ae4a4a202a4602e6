/-
  OctetSticks returns true at every row of bytes, number and row of asks: its walk.
-/
import Derived.Test.YtijpfdjmfnokkaaRWtr
import Derived.Test.YtijpfdjmfnokkaaAsks
import Derived.Test.YtijpfdjmfnokkaaKeep
namespace Go.Proofs.Ytijpfdjmfnokkaa
set_option linter.unusedVariables false
open Go.RowKit
theorem take_gone (n : Int) : takeR ([], true) n = [] ∧ takeN ([], true) n = ([], true) := take_bad ([], true) n rfl rfl
theorem byte_gone : byteR ([], true) = 0 := by decide
theorem two_gone : twoR ([], true) = 0 := by decide
theorem var_gone : varR ([], true) = 0 ∧ varN ([], true) = ([], true) := by decide
theorem text_gone : textR ([], true) = [] ∧ textN ([], true) = ([], true) := by decide
/-- What the body writes: nothing below base, and the reader stays bad. -/
theorem Rdr.round {w wr w' : World} {base p : Nat} {T : TypeId} {P : Nat → Prop} {s : St} (hb : Below base w wr) (hbp : base ≤ p) (hbs : base ≤ wr.heap.size) (hk : Kept (· = p) wr w') : Below base w w' :=
  hk.below hb hbs fun j hj => by rw [hj]; exact hbp
set_option maxRecDepth 100000 in
set_option maxHeartbeats 4000000 in
theorem sticks_walk (A : Option Addr) (n c : Nat) (bs : List Int) (m : Int) (A2 : Option Addr) (n2 c2 : Nat) (L : List AskD) (w : World) (hr : InRow w A n c bs) (hm0 : -9223372036854775808 ≤ m) (hm1 : m ≤ 9223372036854775807) (hL : Asks w w.heap.size A2 n2 c2 L) :
    Calls Try.prog 6 #[.slice A n c, .int .i64 m, .slice A2 n2 c2] w fun e w' => e = .returned (.bool true) ∧ Below w.heap.size w w' := by
  obtain ⟨hr, hnc, hc, hA⟩ := hr
  obtain ⟨hwb0, hwb1⟩ := withinS_bd m 1 50 (by omega)
  obtain ⟨z, hz⟩ : ∃ z, withinS m 1 50 = z := ⟨_, rfl⟩
  rw [hz] at hwb0 hwb1
  have WZ := Lib.hid hz; clear hz
  have hrc := hr.cut (m := min n 40) (by omega)
  have hlen : (bs.take (min n 40)).length = min n 40 := hrc.1
  have hmn : min n 40 ≤ 40 := by omega
  have hmc : min n 40 ≤ c := by omega
  have hc' := hc
  unfold maxLen at hc'
  obtain ⟨q, hq⟩ : ∃ q, min n 40 = q := ⟨_, rfl⟩
  rw [hq] at hrc hlen hmn hmc
  have hto := take_out (bs.take q, false) (q + z) (by show ((bs.take q).length : Int) < _; rw [hlen]; omega)
  have hlL := hL.1
  have hn2 := hL.2.1
  have hc2 := hL.2.2.1
  unfold maxLen at hc2
  have Q := Lib.hid hq; have HLn := Lib.hid hlen; have TO := Lib.hid hto; have HLL := Lib.hid hlL
  clear hq hlen hto hlL
  go_enter Try.func6, Try.ntmps6
  go_wp2_with fail
  refine (cut_any A n c 40 w hnc hc (by omega) (fun h e => by have := hA e; omega)).mono ?_
  rintro e w' ⟨rfl, rfl⟩
  rw [Q.out]
  go_wp2_with fail
  refine (of_any A q c _ w hrc (by omega) hA).mono ?_
  rintro e w1 ⟨p, rfl, hp, hr1, hb1⟩
  have hs1 := hb1.size
  go_wp2_with fail
  refine (within_any m 1 50 w1 hm0 hm1 (by omega) (by omega) (by omega)).mono ?_
  rintro e w' ⟨rfl, rfl⟩
  rw [WZ.out]
  go_wp2_with fail
  refine (raw_any p _ _ _ (q + z) w1 hr1 (fun b hb => by omega) (by show (bs.take q).length ≤ _; rw [HLn.out]; omega)).mono ?_
  rintro e w2 ⟨v, rfl, hown, hr2, hk2⟩
  rw [TO.out.1] at hown
  rw [TO.out.2] at hr2
  obtain ⟨A3, c3, rfl, h1, h2, h3⟩ := hown.open_n 0 rfl
  have hs2 := hk2.size
  have hb2 := hk2.below hb1 (by omega) (fun j hj => by rw [hj]; exact hp)
  clear hown h3 hr1
  go_wp2_with fail
  refine (bad_any p _ _ _ w2 hr2).mono ?_
  rintro e w' ⟨rfl, rfl⟩
  go_wp2_with fail
  have hL2 := hL.below hb2
  clear hrc hr hk2 hb1
  go_loopw [8] (fun i wr => ∃ k : Nat, k ≤ n2 ∧ k ≤ 15 ∧ i = .int .i64 k ∧ Rdr wr p 59 (fun b => w.heap.size ≤ b ∧ b < p) ([], true) ∧ Below w.heap.size w wr) (fun i _ => 15 - (intOf i).toNat)
  case atStart => exact ⟨0, by omega, by omega, rfl, hr2, hb2⟩
  case round =>
    obtain ⟨k, hk1, hk2, rfl, hrr, hbr⟩ := hrel
    have hbs := hbr.size
    have hLr := hL.below hbr
    clear hr2 hb2 hL2
    by_cases hlt : k < n2 ∧ k < 15
    · obtain ⟨hlt1, hlt2⟩ := hlt
      have hd1 : decide (k < n2) = true := by simpa using hlt1
      have hd2 : decide (k < 15) = true := by simpa using hlt2
      have hd3 : decide ((k : Int) < 15) = true := by simp; omega
      obtain ⟨b, off, rfl, hbl, hask⟩ := hLr.2.2.2.2 (by omega)
      obtain ⟨d, hd⟩ : ∃ d, L[k]? = some d := ⟨_, List.getElem?_eq_getElem (by rw [HLL.out]; exact hlt1)⟩
      have hak := hask k d hd
      have ck := hak.ck
      have cn := hak.cn
      have hn0 := hak.n0
      have hn1 := hak.n1
      obtain ⟨x, hx⟩ : ∃ x, d.k = x := ⟨_, rfl⟩
      obtain ⟨y, hy⟩ : ∃ y, d.n = y := ⟨_, rfl⟩
      rw [hx] at ck
      rw [hy] at cn hn0 hn1
      have hcase : x = 1 ∨ x = 2 ∨ x = 3 ∨ x = 4 ∨ x = 5 ∨ ((x == 1) = false ∧ (x == 2) = false ∧ (x == 3) = false ∧ (x == 4) = false ∧ (x == 5) = false) := by
        simp; omega
      clear hask hak hd hx hy hd1 hd2 hd3
      rcases hcase with rfl | rfl | rfl | rfl | rfl | ⟨e1, e2, e3, e4, e5⟩
      · go_wp2_with fail
        refine (byte_any p _ _ _ wr hrr (fun b hb => by omega)).mono ?_
        rintro e w3 ⟨rfl, hr3, hk3⟩
        rw [byte_gone]
        rw [(take_gone _).2] at hr3
        go_wp2_with fail
        refine (bad_any p _ _ _ w3 hr3).mono ?_
        rintro e w' ⟨rfl, rfl⟩
        go_wp2_with fail
        refine (left_any p _ _ _ w3 hr3).mono ?_
        rintro e w' ⟨rfl, rfl⟩
        go_wp2_with fail
        go_roundw
        case rel => exact ⟨k + 1, by omega, by omega, by go_num, hr3, Rdr.round (s := ([], true)) (T := 59) (P := fun _ => True) hbr hp hbs hk3⟩
        case measure => simp [intOf]; omega
      · go_wp2_with fail
        refine (two_any p _ _ _ wr hrr (fun b hb => by omega)).mono ?_
        rintro e w3 ⟨rfl, hr3, hk3⟩
        rw [two_gone]
        rw [(take_gone _).2] at hr3
        go_wp2_with fail
        refine (bad_any p _ _ _ w3 hr3).mono ?_
        rintro e w' ⟨rfl, rfl⟩
        go_wp2_with fail
        refine (left_any p _ _ _ w3 hr3).mono ?_
        rintro e w' ⟨rfl, rfl⟩
        go_wp2_with fail
        go_roundw
        case rel => exact ⟨k + 1, by omega, by omega, by go_num, hr3, Rdr.round (s := ([], true)) (T := 59) (P := fun _ => True) hbr hp hbs hk3⟩
        case measure => simp [intOf]; omega
      · go_wp2_with fail
        refine (var_any p _ _ _ wr hrr (fun b hb => by omega)).mono ?_
        rintro e w3 ⟨rfl, hr3, hk3⟩
        rw [var_gone.1]
        rw [var_gone.2] at hr3
        go_wp2_with fail
        refine (bad_any p _ _ _ w3 hr3).mono ?_
        rintro e w' ⟨rfl, rfl⟩
        go_wp2_with fail
        refine (left_any p _ _ _ w3 hr3).mono ?_
        rintro e w' ⟨rfl, rfl⟩
        go_wp2_with fail
        go_roundw
        case rel => exact ⟨k + 1, by omega, by omega, by go_num, hr3, Rdr.round (s := ([], true)) (T := 59) (P := fun _ => True) hbr hp hbs hk3⟩
        case measure => simp [intOf]; omega
      · go_wp2_with fail
        refine (raw_any p _ _ _ y wr hrr (fun b hb => by omega) (by simp)).mono ?_
        rintro e w3 ⟨v3, rfl, ho3, hr3, hk3⟩
        rw [(take_gone _).1] at ho3
        rw [(take_gone _).2] at hr3
        obtain ⟨A4, c4, rfl, g1, g2, g3⟩ := ho3.open_n 0 rfl
        clear ho3 g3
        go_wp2_with fail
        refine (bad_any p _ _ _ w3 hr3).mono ?_
        rintro e w' ⟨rfl, rfl⟩
        go_wp2_with fail
        refine (left_any p _ _ _ w3 hr3).mono ?_
        rintro e w' ⟨rfl, rfl⟩
        go_wp2_with fail
        go_roundw
        case rel => exact ⟨k + 1, by omega, by omega, by go_num, hr3, Rdr.round (s := ([], true)) (T := 59) (P := fun _ => True) hbr hp hbs hk3⟩
        case measure => simp [intOf]; omega
      · go_wp2_with fail
        refine (text_any p _ _ _ wr hrr (fun b hb => by omega) (by simp)).mono ?_
        rintro e w3 ⟨v3, rfl, ho3, hr3, hk3⟩
        rw [text_gone.1] at ho3
        rw [text_gone.2] at hr3
        obtain ⟨A4, c4, rfl, g1, g2, g3⟩ := ho3.open_n 0 rfl
        clear ho3 g3
        go_wp2_with fail
        refine (bad_any p _ _ _ w3 hr3).mono ?_
        rintro e w' ⟨rfl, rfl⟩
        go_wp2_with fail
        refine (left_any p _ _ _ w3 hr3).mono ?_
        rintro e w' ⟨rfl, rfl⟩
        go_wp2_with fail
        go_roundw
        case rel => exact ⟨k + 1, by omega, by omega, by go_num, hr3, Rdr.round (s := ([], true)) (T := 59) (P := fun _ => True) hbr hp hbs hk3⟩
        case measure => simp [intOf]; omega
      · go_wp2_with fail
        refine (bad_any p _ _ _ wr hrr).mono ?_
        rintro e w' ⟨rfl, rfl⟩
        go_wp2_with fail
        refine (left_any p _ _ _ wr hrr).mono ?_
        rintro e w' ⟨rfl, rfl⟩
        go_wp2_with fail
        go_roundw
        case rel => exact ⟨k + 1, by omega, by omega, by go_num, hrr, hbr⟩
        case measure => simp [intOf]; omega
    · have hcase : k = n2 ∨ (k = 15 ∧ k < n2) := by omega
      clear hlt
      rcases hcase with rfl | ⟨rfl, hlt⟩
      all_goals
        go_wp2_with fail
        refine (known_any _).mono ?_
        rintro e w5 ⟨rfl, k5⟩
        go_wp2_with fail
        go_ret
        exact ⟨rfl, hbr.trans (k5.mono hbs)⟩
theorem sticks_law (A : Option Addr) (n c : Nat) (bs : List Int) (m : Int) (A2 : Option Addr) (n2 c2 : Nat) (L : List AskD) (w : World) (hr : InRow w A n c bs) (hm : (Lit.int .i64 m).wf = true) (hL : Asks w w.heap.size A2 n2 c2 L) :
    Calls Try.prog 6 #[.slice A n c, .int .i64 m, .slice A2 n2 c2] w fun e w' => e = .returned (.bool true) ∧ Below w.heap.size w w' := by
  have h1 := bounds_i64 hm
  exact sticks_walk A n c bs m A2 n2 c2 L w hr h1.1 h1.2 hL
end Go.Proofs.Ytijpfdjmfnokkaa
