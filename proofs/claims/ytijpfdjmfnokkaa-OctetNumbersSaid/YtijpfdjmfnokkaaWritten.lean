/-
  What the statements' 'written' answers: the program's bytes and the document's, which are the same; every row of asks.
-/
import Derived.Test.YtijpfdjmfnokkaaRWtr
import Derived.Test.YtijpfdjmfnokkaaAsks
import Derived.Test.YtijpfdjmfnokkaaKeep
import Derived.Deep.RegionHeld3
namespace Go.Proofs.Ytijpfdjmfnokkaa
set_option linter.unusedVariables false
open Go.RowKit
/-- What an ask writes. -/
def encA (d : AskD) : List Int :=
  if d.k = 1 then [d.x % 256] else if d.k = 2 then twoB (d.x % 65536) else if d.k = 3 then (if d.x ≤ 4611686018427387903 then putS d.x else [])
  else if d.k = 4 then d.bs.take 30 else if d.k = 5 then textB (d.bs.take 30) else []
def encL (L : List AskD) : List Int := L.flatMap encA
theorem textB_len (xs : List Int) : (textB xs).length ≤ xs.length + 8 := by
  unfold textB; rw [List.length_append, putS_len]; have := size_le (xs.length : Int); omega
theorem encA_len (d : AskD) : (encA d).length ≤ 38 := by
  have h := List.length_take_le 30 d.bs
  have h2 := textB_len (d.bs.take 30)
  unfold encA twoB
  split
  · simp
  · split
    · simp
    · split
      · split
        · rw [putS_len]; have := size_le d.x; omega
        · simp
      · split
        · omega
        · split
          · omega
          · simp
theorem encL_len : ∀ L : List AskD, (encL L).length ≤ 38 * L.length
  | [] => by simp [encL]
  | d :: L => by
    have h := encL_len L
    have h2 := encA_len d
    unfold encL at *
    rw [List.flatMap_cons, List.length_append, List.length_cons]; omega
theorem encL_take (L : List AskD) (k : Nat) (d : AskD) (h : L[k]? = some d) : encL (L.take (k + 1)) = encL (L.take k) ++ encA d := by
  obtain ⟨hk, e⟩ := List.getElem?_eq_some_iff.1 h
  unfold encL
  rw [List.take_succ_eq_append_getElem hk, List.flatMap_append, e]; simp
theorem encL_take_len (L : List AskD) (k : Nat) (hk : k ≤ 15) : (encL (L.take k)).length ≤ 570 := by
  have h := encL_len (L.take k)
  have h2 := List.length_take_le k L
  omega
/-- The writer at p with row v, and another row vb of the call's own, which lies apart. -/
def WB (w : World) (base p : Nat) (T : TypeId) (v vb : Value) (bs bs' : List Int) : Prop :=
  Wtr w base p T v bs ∧ Own w base 5 vb bs' ∧ ∀ j, vb.ownBlock = some j → j ≠ p ∧ v.ownBlock ≠ some j
theorem Wtr.base_of {w : World} {base p : Nat} {T : TypeId} {v : Value} {bs : List Int} (h : Wtr w base p T v bs) : ∀ j, WS p v j → base ≤ j := fun j hj => by
  rcases hj with hj | hj
  · rw [hj]; exact h.2.1
  · exact (h.2.2.1.block_lt j hj).1
theorem WB.write {w0 w w' : World} {base p : Nat} {T : TypeId} {v vb r : Value} {bs bs' bs2 : List Int} {e : Ending} (h : WB w base p T v vb bs bs') (hb : Below base w0 w) (hbase : base ≤ w.heap.size) (hp : WPost r w base p T v bs2 e w') :
    ∃ v', e = .returned r ∧ WB w' base p T v' vb bs2 bs' ∧ Below base w0 w' := by
  obtain ⟨v', he, h1, h2, h3⟩ := hp
  refine ⟨v', he, ⟨h1, h.2.1.kept h3 (fun j hj hs => ?_), fun j hj => ⟨(h.2.2 j hj).1, fun e => ?_⟩⟩, h3.below hb hbase h.1.base_of⟩
  · have := h.2.2 j hj
    rcases hs with hs | hs
    · exact this.1 hs
    · exact this.2 hs
  · rcases h2 with h2 | ⟨k, hk, h2⟩
    · exact (h.2.2 j hj).2 (h2 ▸ e)
    · have := (h.2.1.block_lt j hj).2
      rw [h2] at e; injection e; omega
theorem WB.fresh {w0 w w' : World} {base p : Nat} {T : TypeId} {v vb vb' : Value} {bs bs' bs2 : List Int} (h : WB w base p T v vb bs bs') (hb : Below base w0 w) (hbase : base ≤ w.heap.size) (ho : Own w' w.heap.size 5 vb' bs2) (hb' : Below w.heap.size w w') :
    WB w' base p T v vb' bs bs2 ∧ Below base w0 w' := by
  refine ⟨⟨h.1.kept (Kept.of_below hb' (fun _ => False)) (fun h => h) (fun _ _ h => h), ho.base_ hbase, fun j hj => ?_⟩, hb.trans (hb'.mono hbase)⟩
  have h1 := (ho.block_lt j hj).1
  have h2 := h.1.1.lt
  refine ⟨by omega, fun e => ?_⟩
  have := (h.1.2.2.1.block_lt j e).2
  omega
theorem WB.grow {w0 w w1 w' : World} {base p : Nat} {T : TypeId} {v vb vb' : Value} {bs bs' bs2 : List Int} (h : WB w base p T v vb bs bs') (hb : Below base w0 w) (hbase : base ≤ w.heap.size) (hw1 : Below w.heap.size w w1)
    (ho : Own w' base 5 vb' bs2) (hg : w1.grownBy w' vb.ownBlock) (hv : vb'.ownBlock = vb.ownBlock ∨ vb'.ownBlock = some w1.heap.size) : WB w' base p T v vb' bs bs2 ∧ Below base w0 w' := by
  have hs := hw1.size
  have k1 : Kept (fun j => vb.ownBlock = some j) w w1 := Kept.of_below hw1 _
  have k2 : Kept (fun j => vb.ownBlock = some j) w w' := k1.trans (Kept.of_grown hg (fun k hk => .inl hk))
  refine ⟨⟨h.1.kept k2 (fun e => (h.2.2 _ e).1 rfl) (fun j hj e => (h.2.2 j e).2 hj), ho, fun j hj => ?_⟩, k2.below hb hbase (fun j hj => (h.2.1.block_lt j hj).1)⟩
  rcases hv with hv | hv
  · exact h.2.2 j (hv ▸ hj)
  · rw [hv] at hj
    injection hj with hj
    have h2 := h.1.1.lt
    refine ⟨by omega, fun e => ?_⟩
    have := (h.1.2.2.1.block_lt j e).2
    omega
theorem WB.apart {w w' : World} {base p : Nat} {T : TypeId} {v vb v5 : Value} {bs bs' bs5 : List Int} (h : WB w base p T v vb bs bs') (ho : Own w' w.heap.size 5 v5 bs5) : ∀ j, v5.ownBlock = some j → vb.ownBlock ≠ some j := fun j hj e => by
  have h1 := (ho.block_lt j hj).1
  have h2 := (h.2.1.block_lt j e).2
  omega
theorem Own.rd {w : World} {base : Nat} {e : TypeId} {bs : List Int} {A : Option Addr} {n c : Nat} (h : Own w base e (.slice A n c) bs) (hn : bs.length = n) : Rd w w.heap.size A n bs := by
  subst hn; exact Rd.of_own h.2 rfl h.1
theorem Rd.block_lt {w : World} {B : Nat} {A : Option Addr} {n : Nat} {bs : List Int} (h : Rd w B A n bs) : ∀ b off, 0 < n → A = some ⟨b, off, none⟩ → b < B := fun b off hn e => by
  obtain ⟨b', off', e', hb, _⟩ := h.2.2 hn
  rw [e] at e'
  injection e' with e'
  injection e' with e1 e2
  omega
theorem take_min (bs : List Int) (n : Nat) (h : bs.length = n) (k : Nat) : bs.take (min n k) = bs.take k := by
  rcases Nat.le_total n k with hk | hk
  · rw [Nat.min_eq_left hk, List.take_of_length_le (by omega), List.take_of_length_le (by omega)]
  · rw [Nat.min_eq_right hk]
def WrittenPost (w : World) (bs : List Int) (e : Ending) (w' : World) : Prop :=
  ∃ v vb, e = .returned (.tuple #[v, vb, .bool true]) ∧ Own w' w.heap.size 5 v bs ∧ Own w' w.heap.size 5 vb bs ∧ (∀ j, v.ownBlock = some j → vb.ownBlock ≠ some j) ∧ Below w.heap.size w w'
set_option maxRecDepth 100000 in
set_option maxHeartbeats 8000000 in
theorem written_any (A2 : Option Addr) (n2 c2 : Nat) (L : List AskD) (w : World) (hL : Asks w w.heap.size A2 n2 c2 L) :
    Calls Try.prog 7 #[.slice A2 n2 c2] w (WrittenPost w (encL (L.take 15))) := by
  obtain ⟨i0, hi, hz0, hz1, hz2⟩ := info_parts u8_info
  have hlL := hL.1
  have hn2 := hL.2.1
  have hc2 := hL.2.2.1
  unfold maxLen at hc2
  have HLL := Lib.hid hlL
  clear hlL
  go_enter Try.func7, Try.ntmps7
  go_wp2_with fail
  refine (new_any w).mono ?_
  rintro e w1 ⟨rfl, hw1, hlt1, hb1⟩
  have hwb1 : WB w1 w.heap.size w.heap.size 64 (.slice none 0 0) (.slice none 0 0) [] [] := ⟨hw1, Own.none_ _ _ _, fun j hj => by simp [Value.ownBlock] at hj⟩
  clear hw1
  go_wp2_with fail
  go_loopw [6, 7] (fun vb i wr => ∃ (k : Nat) (v : Value), k ≤ n2 ∧ k ≤ 15 ∧ i = .int .i64 k ∧ WB wr w.heap.size w.heap.size 64 v vb (encL (L.take k)) (encL (L.take k)) ∧ Below w.heap.size w wr) (fun _ i _ => 15 - (intOf i).toNat)
  case atStart => exact ⟨0, _, by omega, by omega, rfl, by simpa [encL] using hwb1, hb1⟩
  case round =>
    obtain ⟨k, v, hk1, hk2, rfl, hwb, hbr⟩ := hrel
    have hbs := hbr.size
    have hLr := hL.below hbr
    clear hwb1 hb1 hlt1
    by_cases hlt : k < n2 ∧ k < 15
    · obtain ⟨hlt1, hlt2⟩ := hlt
      have hd1 : decide (k < n2) = true := by simpa using hlt1
      have hd2 : decide (k < 15) = true := by simpa using hlt2
      have hd3 : decide ((k : Int) < 15) = true := by simp; omega
      obtain ⟨b, off, rfl, hbl, hask⟩ := hLr.2.2.2.2 (by omega)
      obtain ⟨d, hd⟩ : ∃ d, L[k]? = some d := ⟨_, List.getElem?_eq_getElem (by rw [HLL.out]; exact hlt1)⟩
      have hak := hask k d hd
      have het := encL_take L k d hd
      have hel := encL_take_len L k (by omega)
      have hal := encA_len d
      have HAK := Lib.hid hak
      have ck := hak.ck
      have cx := hak.cx
      have cb := hak.cb
      have hx0 := hak.x0
      have hx1 := hak.x1
      have hlc := hak.lc
      have hcm := hak.cm
      have hcu := cut_any d.A d.len d.cap 30 wr hlc hcm (by omega) (fun h e => by have := hak.nil e; omega)
      have hrc := hak.rd.cut (m := min d.len 30) (by omega)
      rw [take_min d.bs d.len hak.rd.1 30] at hrc
      have EK := Lib.hid (show encA d = if d.k = 1 then [d.x % 256] else if d.k = 2 then twoB (d.x % 65536) else if d.k = 3 then (if d.x ≤ 4611686018427387903 then putS d.x else []) else if d.k = 4 then d.bs.take 30 else if d.k = 5 then textB (d.bs.take 30) else [] from rfl)
      obtain ⟨kk, hkk⟩ : ∃ x, d.k = x := ⟨_, rfl⟩
      obtain ⟨x, hx⟩ : ∃ x, d.x = x := ⟨_, rfl⟩
      obtain ⟨dA, hdA⟩ : ∃ x, d.A = x := ⟨_, rfl⟩
      obtain ⟨dl, hdl⟩ : ∃ x, d.len = x := ⟨_, rfl⟩
      obtain ⟨dc, hdc⟩ : ∃ x, d.cap = x := ⟨_, rfl⟩
      obtain ⟨xs, hxs⟩ : ∃ x, d.bs.take 30 = x := ⟨_, rfl⟩
      obtain ⟨q, hq⟩ : ∃ q, min dl 30 = q := ⟨_, rfl⟩
      obtain ⟨E, hE⟩ : ∃ E, encL (L.take k) = E := ⟨_, rfl⟩
      rw [hkk] at ck EK
      rw [hx] at cx EK hx0 hx1
      rw [hdA, hdl, hdc] at cb
      rw [hdl, hdc] at hlc
      rw [hdc] at hcm
      rw [hdA, hdl, hxs, hq] at hrc
      rw [hdA, hdl, hdc] at hcu
      have hcu' : Calls Try.prog 11 #[.slice dA dl dc, .int .i64 30] wr fun e w' => e = .returned (.slice dA q dc) ∧ wr = w' := by rw [← hq]; exact hcu
      have CU := Lib.hid hcu'
      rw [hxs] at EK
      rw [hE] at het hel hwb
      have hq30 : q ≤ 30 := by omega
      have hqc : q ≤ dc := by omega
      unfold maxLen at hcm
      have ET := Lib.hid het
      obtain ⟨EL, hEL⟩ : ∃ EL, E.length = EL := ⟨_, rfl⟩
      obtain ⟨A9, c9, rfl, g1, g2, g3⟩ := hwb.2.1.open_n EL hEL
      have hEle : E.length ≤ 570 := hel
      rw [hEL] at hel
      have LE := Lib.hid hEL
      have hrb := hrc.block_lt
      clear hEL g1 g2 g3
      have hcase : kk = 1 ∨ kk = 2 ∨ (kk = 3 ∧ x ≤ 4611686018427387903) ∨ (kk = 3 ∧ 4611686018427387903 < x) ∨ kk = 4 ∨ kk = 5 ∨ ((kk == 1) = false ∧ (kk == 2) = false ∧ (kk == 3) = false ∧ (kk == 4) = false ∧ (kk == 5) = false) := by
        simp; omega
      clear hask hak hd hkk hx hdA hdl hdc hxs hq hE het hcu hcu' hd1 hd2 hd3 hlc
      rcases hcase with rfl | rfl | ⟨rfl, hsm⟩ | ⟨rfl, hbg⟩ | rfl | rfl | ⟨e1, e2, e3, e4, e5⟩
      · have EQ' := Lib.hid (show encA d = [x % 256] by rw [EK.out]; simp)
        go_wp2_with fail
        refine (CU.out).mono ?_
        rintro e w' ⟨rfl, rfl⟩
        go_wp2_with fail
        refine (wbyte_any _ _ _ _ _ (IntKind.u8.wrap x) wr hwb.1 (by omega) (u8_wrap_bd x).1 (u8_wrap_bd x).2 hbs).mono ?_
        intro e w3 hpost
        obtain ⟨v3, rfl, hwb3, hb3⟩ := hwb.write hbr hbs hpost
        have hs3 := hb3.size
        have cx3 : w3.cell? ⟨b, off + k * 4 + 2, none⟩ = some (.int .u64 x) := (hb3.cell (p := ⟨b, _, none⟩) hbl).trans ((hbr.cell (p := ⟨b, _, none⟩) hbl).symm.trans cx)
        clear hpost hwb
        go_wp2_with (at_builtin; refine wpList_append_at rfl (.tmp 43) (.tmp 50) 23 rfl w.heap.size 5 i0 Try.underlying23 hi hz0 hz1 hz2 _ E rfl (hwb3.2.1.alloc _) _ _ 1 1 [IntKind.u8.wrap x] rfl (Rd.byte w3 5 _ rfl _ (u8_wrap_bd x)) (by omega) (by simp; omega) ?_; intro v4 w4 ho4 hg4 hv4; obtain ⟨hwb4, hb4⟩ := hwb3.grow hb3 hs3 ((Below.refl _ _).alloc (Nat.le_refl _) _) ho4 hg4 hv4; rw [IntKind.wrap_u8] at hwb4; clear hwb3 hg4 hv4 ho4)
        obtain ⟨N, hN⟩ : ∃ N, (E ++ [x % 256]).length = N := ⟨_, rfl⟩
        obtain ⟨A10, c10, rfl, _, _, _⟩ := hwb4.2.1.open_n N hN
        have LN := Lib.hid hN; clear hN
        go_wp2_with fail
        refine (wlen_any _ _ _ _ _ w4 hwb4.1).mono ?_
        rintro e w' ⟨rfl, rfl⟩
        rw [LN.out]
        go_wp2_with fail
        go_roundw
        case rel => exact ⟨k + 1, _, by omega, by omega, by go_num, by rw [ET.out, EQ'.out]; exact hwb4, hb4⟩
        case measure => simp [intOf]; omega
      · have EQ' := Lib.hid (show encA d = twoB (x % 65536) by rw [EK.out]; simp)
        go_wp2_with fail
        refine (CU.out).mono ?_
        rintro e w' ⟨rfl, rfl⟩
        go_wp2_with fail
        have hw0 : 0 ≤ IntKind.u16.wrap x := by rw [IntKind.wrap_u16]; omega
        have hw1 : IntKind.u16.wrap x < 65536 := by rw [IntKind.wrap_u16]; omega
        refine (wtwo_any _ _ _ _ _ (IntKind.u16.wrap x) wr hwb.1 (by omega) hw0 hw1 hbs).mono ?_
        intro e w3 hpost
        obtain ⟨v3, rfl, hwb3, hb3⟩ := hwb.write hbr hbs hpost
        have hs3 := hb3.size
        have cx3 : w3.cell? ⟨b, off + k * 4 + 2, none⟩ = some (.int .u64 x) := (hb3.cell (p := ⟨b, _, none⟩) hbl).trans ((hbr.cell (p := ⟨b, _, none⟩) hbl).symm.trans cx)
        clear hpost hwb
        go_wp2_with fail
        refine (rtwo2_any A9 EL c9 E (IntKind.u16.wrap x) w3 (hwb3.2.1.rd LE.out) (by omega) hw0 hw1).mono ?_
        rintro e w4 ⟨v4, rfl, ho4, hb4'⟩
        obtain ⟨hwb4, hb4⟩ := hwb3.fresh hb3 hs3 ho4 hb4'
        clear hwb3 ho4 hb4'
        rw [IntKind.wrap_u16] at hwb4
        obtain ⟨N, hN⟩ : ∃ N, (E ++ twoB (x % 65536)).length = N := ⟨_, rfl⟩
        obtain ⟨A10, c10, rfl, _, _, _⟩ := hwb4.2.1.open_n N hN
        have LN := Lib.hid hN; clear hN
        go_wp2_with fail
        refine (wlen_any _ _ _ _ _ w4 hwb4.1).mono ?_
        rintro e w' ⟨rfl, rfl⟩
        rw [LN.out]
        go_wp2_with fail
        go_roundw
        case rel => exact ⟨k + 1, _, by omega, by omega, by go_num, by rw [ET.out, EQ'.out]; exact hwb4, hb4⟩
        case measure => simp [intOf]; omega
      · have EQ' := Lib.hid (show encA d = putS x by rw [EK.out]; simp [hsm])
        go_wp2_with fail
        refine (CU.out).mono ?_
        rintro e w' ⟨rfl, rfl⟩
        go_wp2_with fail
        go_region_held3 (fun w' => w'.cell? ⟨b, off + k * 4 + 2, none⟩ = some (.int .u64 x)) (first | assumption | go_keep)
          ((go_at_call 24; refine (wvar_yes _ _ _ _ _ x wr.drew hwb.1 (by omega) hx0 hsm hbs).mono ?_; intro e w3 hpost; obtain ⟨v3, rfl, hwb3, hb3⟩ := WB.write (w := wr.drew) hwb hbr.drew hbs hpost; have hs3 := hb3.size; have cx3 : w3.cell? ⟨b, off + k * 4 + 2, none⟩ = some (.int .u64 x) := (hb3.cell (p := ⟨b, _, none⟩) hbl).trans ((hbr.cell (p := ⟨b, _, none⟩) hbl).symm.trans cx)))
        trace "REGION"
        go_goals
        clear hwb
        go_wp2_with fail
        refine (rput_any A9 EL c9 E x w3 (hwb3.2.1.rd LE.out) (by omega) hx0 hsm).mono ?_
        rintro e w4 ⟨v4, rfl, ho4, hb4'⟩
        obtain ⟨hwb4, hb4⟩ := hwb3.fresh hb3 hs3 ho4 hb4'
        clear hwb3 ho4 hb4'
        obtain ⟨N, hN⟩ : ∃ N, (E ++ putS x).length = N := ⟨_, rfl⟩
        obtain ⟨A10, c10, rfl, _, _, _⟩ := hwb4.2.1.open_n N hN
        have LN := Lib.hid hN; clear hN
        go_wp2_with fail
        refine (wlen_any _ _ _ _ _ w4 hwb4.1).mono ?_
        rintro e w' ⟨rfl, rfl⟩
        rw [LN.out]
        go_wp2_with fail
        go_roundw
        case rel => exact ⟨k + 1, _, by omega, by omega, by go_num, by rw [ET.out, EQ'.out]; exact hwb4, hb4⟩
        case measure => simp [intOf]; omega
      · have EQ' := Lib.hid (show encA d = [] by rw [EK.out]; simp; omega)
        go_wp2_with fail
        refine (CU.out).mono ?_
        rintro e w' ⟨rfl, rfl⟩
        go_wp2_with fail
        go_region_held3 (fun w' => w'.cell? ⟨b, off + k * 4 + 2, none⟩ = some (.int .u64 x)) (first | assumption | go_keep)
          ((go_at_call 24; refine (wvar_no _ _ _ _ _ x wr.drew hwb.1 (by omega) hbg hbs).mono ?_; intro e w3 hpost; obtain ⟨v3, rfl, hwb3, hb3⟩ := WB.write (w := wr.drew) hwb hbr.drew hbs hpost; have hs3 := hb3.size; have cx3 : w3.cell? ⟨b, off + k * 4 + 2, none⟩ = some (.int .u64 x) := (hb3.cell (p := ⟨b, _, none⟩) hbl).trans ((hbr.cell (p := ⟨b, _, none⟩) hbl).symm.trans cx)))
        trace "REGION"
        go_goals
        clear hwb
        go_wp2_with fail
        refine (wlen_any _ _ _ _ _ w3 hwb3.1).mono ?_
        rintro e w' ⟨rfl, rfl⟩
        rw [LE.out]
        go_wp2_with fail
        go_roundw
        case rel => exact ⟨k + 1, _, by omega, by omega, by go_num, by rw [ET.out, EQ'.out, List.append_nil]; exact hwb3, hb3⟩
        case measure => simp [intOf]; omega
      · have EQ' := Lib.hid (show encA d = xs by rw [EK.out]; simp)
        go_wp2_with fail
        refine (CU.out).mono ?_
        rintro e w' ⟨rfl, rfl⟩
        go_wp2_with fail
        refine (wraw_any _ _ _ _ _ dA q dc xs wr hwb.1 (by omega) (hrc.more hbs) hbs).mono ?_
        intro e w3 hpost
        obtain ⟨v3, rfl, hwb3, hb3⟩ := hwb.write hbr hbs hpost
        have hs3 := hb3.size
        have hrc3 : Rd w3 w.heap.size dA q xs := hrc.keep (Nat.le_refl _) (fun b' off' h => (hb3.cell (p := ⟨b', off', none⟩) h).trans (hbr.cell (p := ⟨b', off', none⟩) h).symm)
        clear hpost hwb
        go_wp2_with (at_builtin; refine wpList_append_at rfl (.tmp 104) (.tmp 105) 23 rfl w.heap.size 5 i0 Try.underlying23 hi hz0 hz1 hz2 _ E rfl hwb3.2.1 _ dA q dc xs rfl hrc3 (by omega) hs3 ?_; intro v4 w4 ho4 hg4 hv4; obtain ⟨hwb4, hb4⟩ := hwb3.grow hb3 hs3 (Below.refl _ _) ho4 hg4 hv4; clear hwb3 hg4 hv4 ho4)
        obtain ⟨N, hN⟩ : ∃ N, (E ++ xs).length = N := ⟨_, rfl⟩
        obtain ⟨A10, c10, rfl, _, _, _⟩ := hwb4.2.1.open_n N hN
        have LN := Lib.hid hN; clear hN
        go_wp2_with fail
        refine (wlen_any _ _ _ _ _ w4 hwb4.1).mono ?_
        rintro e w' ⟨rfl, rfl⟩
        rw [LN.out]
        go_wp2_with fail
        go_roundw
        case rel => exact ⟨k + 1, _, by omega, by omega, by go_num, by rw [ET.out, EQ'.out]; exact hwb4, hb4⟩
        case measure => simp [intOf]; omega
      · have EQ' := Lib.hid (show encA d = textB xs by rw [EK.out]; simp)
        go_wp2_with fail
        refine (CU.out).mono ?_
        rintro e w' ⟨rfl, rfl⟩
        go_wp2_with fail
        refine (wtext_any _ _ _ _ _ dA q dc xs wr hwb.1 (by omega) (by omega) (hrc.more hbs) (fun b' off' hn e hs => by have h1 := hrb b' off' hn e; have h2 := hwb.1.base_of b' hs; omega) hbs).mono ?_
        intro e w3 hpost
        obtain ⟨v3, rfl, hwb3, hb3⟩ := hwb.write hbr hbs hpost
        have hs3 := hb3.size
        have hrc3 : Rd w3 w.heap.size dA q xs := hrc.keep (Nat.le_refl _) (fun b' off' h => (hb3.cell (p := ⟨b', off', none⟩) h).trans (hbr.cell (p := ⟨b', off', none⟩) h).symm)
        clear hpost hwb
        go_wp2_with fail
        refine (rtext2_any A9 EL c9 E dA q dc xs w3 (hwb3.2.1.rd LE.out) (hrc3.more hs3) (by omega) (by omega)).mono ?_
        rintro e w4 ⟨v4, rfl, ho4, hb4'⟩
        obtain ⟨hwb4, hb4⟩ := hwb3.fresh hb3 hs3 ho4 hb4'
        clear hwb3 ho4 hb4'
        obtain ⟨N, hN⟩ : ∃ N, (E ++ textB xs).length = N := ⟨_, rfl⟩
        obtain ⟨A10, c10, rfl, _, _, _⟩ := hwb4.2.1.open_n N hN
        have LN := Lib.hid hN; clear hN
        go_wp2_with fail
        refine (wlen_any _ _ _ _ _ w4 hwb4.1).mono ?_
        rintro e w' ⟨rfl, rfl⟩
        rw [LN.out]
        go_wp2_with fail
        go_roundw
        case rel => exact ⟨k + 1, _, by omega, by omega, by go_num, by rw [ET.out, EQ'.out]; exact hwb4, hb4⟩
        case measure => simp [intOf]; omega
      · have EQ' := Lib.hid (show encA d = [] by rw [EK.out]; have h1 := e1; have h2 := e2; have h3 := e3; have h4 := e4; have h5 := e5; simp at h1 h2 h3 h4 h5; simp [h1, h2, h3, h4, h5])
        go_wp2_with fail
        refine (CU.out).mono ?_
        rintro e w' ⟨rfl, rfl⟩
        go_wp2_with fail
        refine (wlen_any _ _ _ _ _ wr hwb.1).mono ?_
        rintro e w' ⟨rfl, rfl⟩
        rw [LE.out]
        go_wp2_with fail
        go_roundw
        case rel => exact ⟨k + 1, _, by omega, by omega, by go_num, by rw [ET.out, EQ'.out, List.append_nil]; exact hwb, hbr⟩
        case measure => simp [intOf]; omega
    · have hcase : k = n2 ∨ (k = 15 ∧ k < n2) := by omega
      have hfin : L.take k = L.take 15 := by
        rcases hcase with h | ⟨h, _⟩
        · rw [List.take_of_length_le (by rw [HLL.out]; omega), List.take_of_length_le (by rw [HLL.out]; omega)]
        · rw [h]
      have hel := encL_take_len L k hk2
      rw [hfin] at hwb hel
      obtain ⟨E, hE⟩ : ∃ E, encL (L.take 15) = E := ⟨_, rfl⟩
      rw [hE] at hwb hel
      clear hlt hfin
      have EE := Lib.hid hE
      clear hE
      rcases hcase with rfl | ⟨rfl, hlt⟩
      all_goals
        go_wp2_with fail
        refine (wdone_any _ _ _ _ _ wr hwb.1 (by omega)).mono ?_
        rintro e w5 ⟨v5, rfl, ho5, hb5⟩
        have hvb5 := hwb.2.1.below hb5 (Nat.le_refl _)
        have hap := hwb.apart ho5
        have ho5' := ho5.base_ hbs
        go_wp2_with fail
        go_ret3
        exact ⟨_, _, rfl, EE.out ▸ ho5', EE.out ▸ hvb5, hap, hbr.trans (hb5.mono hbs)⟩
end Go.Proofs.Ytijpfdjmfnokkaa
