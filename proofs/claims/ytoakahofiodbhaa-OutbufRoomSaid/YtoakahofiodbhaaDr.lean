/-
  OutbufRoom: what is written and not acknowledged keeps within its room.
-/
import Derived.Test.YtoakahofiodbhaaDq
import Derived.Test.YtoakahofiodbhaaDb
import Derived.Test.YtoakahofiodbhaaInN
import Derived.Test.YtoakahofiodbhaaRefInts
import Derived.Deep.LoopGhost
namespace Go.Proofs.Ytoakahofiodbhaa
set_option linter.unusedVariables false
set_option linter.unusedSimpArgs false
open Go.RowKit
theorem wpList_make_g {P : Program} {w : World} {ops : Array Oper} {rest : List Oper} {o : Oper} {a : Act} {Q : Exit → Act → World → Prop}
    (hgw : Region.wanted o (yielded ops a.tmps) = true) (l c : Operand) (t : TypeId) (hop : o.op = Op.makeSlice t l c)
    (e : TypeId) (i : TypeInfo) (z : Value) (h1 : P.underlying t = some (.slice e)) (h2 : P.info? e = some i) (h3 : i.zero = some z) (h4 : i.size = 1)
    (kl kc : IntKind) (m : Nat) (hl : a.eval l = .int kl m) (hc : a.eval c = .int kc m) (b2 : i.bytes * m ≤ 281474976710656) (b3 : m ≤ maxLen)
    (hK : ∀ w' g, Hid (At w' g e (madeL z m)) → Hid (g = w.heap.size) → Hid (Below w.heap.size w w') → wpList P ops Q rest (a.put o.dst (.slice (some ⟨g, 0, none⟩) m m)) w') :
    wpList P ops Q (o :: rest) a w := by
  refine wpList_step fun K hK' => ?_
  rw [if_pos hgw]
  have hb' : (i.bytes : Int) * (m : Int) ≤ 281474976710656 := by
    have : ((i.bytes * m : Nat) : Int) ≤ 281474976710656 := by omega
    simpa using this
  have hrun := run_make (P := P) (w := w) t e i z h1 h2 h3 kl kc (m : Int) (m : Int) (by omega) (by omega) hb' (by unfold maxLen at b3; omega)
  unfold Oper.wp
  simp [execOp, hop, hl, hc, hrun, Result.andThen, h4]
  refine hK' _ _ (hK _ _ (Lib.hid ?_) (Lib.hid rfl) (Lib.hid ((Below.refl _ _).alloc (Nat.le_refl _) _)))
  show _ = _
  rw [heap_alloc_new]
  simp [madeL]
theorem madeL15 (n : Nat) : madeL (.int .u8 0) n = (List.replicate n (0 : Int)).map (Value.int .u8) := by
  apply List.ext_getElem?
  intro i
  by_cases hi : i < n
  · rw [List.getElem?_map, List.getElem?_replicate, if_pos hi]
    simp [madeL, madeCells, Value.cells, Nat.mod_one, hi]
  · rw [List.getElem?_eq_none (by rw [madeL_len]; omega), List.getElem?_eq_none (by simp; omega)]
theorem rd_made {w : World} {g m : Nat} (h : At w g 5 (madeL (.int .u8 0) m)) : Rd w w.heap.size (some ⟨g, 0, none⟩) m (List.replicate m 0) := by
  refine ⟨by simp, fun x hx => by rw [List.eq_of_mem_replicate hx]; omega, fun hp => ⟨g, 0, rfl, h.lt, fun i hi => ?_⟩⟩
  rw [Nat.zero_add, h.cell, madeL15, List.map_replicate, List.getElem?_replicate, if_pos hi, List.getD_eq_getElem?_getD, List.getElem?_replicate, if_pos hi]
  rfl
set_option maxRecDepth 100000 in
set_option maxHeartbeats 16000000 in
theorem oroom_law (A1 : Option Addr) (n1 c1 : Nat) (xs1 : List Int) (A2 : Option Addr) (n2 c2 : Nat) (xs2 : List Int) (w : World) (hu1 : InN w A1 n1 xs1) (hn1 : n1 ≤ c1) (hc1 : c1 ≤ maxLen) (hs1 : c1 * 8 ≤ 140737488351232) (hu2 : InN w A2 n2 xs2) (hn2 : n2 ≤ c2) (hc2 : c2 ≤ maxLen) (hs2 : c2 * 8 ≤ 140737488351232) :
    Calls Try.prog 5 #[.slice A1 n1 c1, .slice A2 n2 c2] w fun e w' => e = .returned (.bool true) ∧ Below w.heap.size w w' := by
  have HU1 := Lib.hid hu1
  have HU2 := Lib.hid hu2
  clear hu1 hu2 hc1 hc2
  have HN := Lib.hid (oz_new w)
  obtain ⟨i0, hi, hz0, hz1, hz2⟩ := o8.hi
  -- one state's calls
  have HRM : Hid (∀ W p S (F : Nat → Prop) (T B R : Nat), Oz w W p S F → Fr S T B → R = 2048 - (T - B) → Calls Try.prog 9 #[.pointer (some ⟨p, 0, none⟩)] W fun e w' => e = .returned (.int .i64 R) ∧ w' = W) := Lib.hid (fun W p S F T B R h hf hR => by
    have := oz_room h
    rw [hf.room, ← hR] at this
    exact this)
  have HWR : Hid (∀ W W' g p S (T B R n q : Nat), Oz w W p S (fun _ => False) → Fr S T B → R = 2048 - (T - B) → q = min n R → n ≤ 900 → At W' g 5 (madeL (.int .u8 0) n) → Below W.heap.size W W' → Calls Try.prog 8 #[.pointer (some ⟨p, 0, none⟩), .slice (some ⟨g, 0, none⟩) n n] W' fun e w' => e = .returned (.int .i64 q) ∧ ∃ S', Oz w w' p S' (fun _ => False) ∧ Fr S' (T + q) B ∧ S'.gn = S.gn) := Lib.hid (fun W W' g p S T B R n q h hf hR hq hn hA hB => by
    have hr := rd_made hA
    refine (oz_write (h.below hB) _ n n _ hr (Nat.le_refl _) (by omega) (by omega)).mono fun e w' hP => ?_
    have hl : (List.replicate n (0 : Int)).length = n := List.length_replicate
    have hw : writeN S n = q := by unfold writeN; rw [hf.room, hq, hR]
    have hfr := hf.write (d := List.replicate n 0) hr.2.1
    rw [hl, ← hR, ← hq] at hfr
    exact ⟨by rw [← hw]; exact hP.1, _, hP.2.1, hfr, rfl⟩)
  have HNX : Hid (∀ W p S (T B : Nat), Oz w W p S (fun _ => False) → Fr S T B → T ≤ 27000 → Calls Try.prog 14 #[.pointer (some ⟨p, 0, none⟩), .int .i64 512, .int .u64 1099511627776] W fun e w' => ∃ (v : Value) (o : Nat) (fi : Bool), e = .returned (.tuple #[.int .u64 o, v, .bool fi, .bool (decide (S.gn < T))]) ∧ (∃ A c n, v = .slice A n c) ∧ ∃ S', Oz w w' p S' (fun _ => False) ∧ Fr S' T B ∧ S'.gn = min T (S.gn + 512)) := Lib.hid (fun W p S T B h hf hT => by
    have hle := hf.le
    refine (oz_next h (by rw [hf.len]; omega) 512 (by omega) 1099511627776 (by omega)).mono fun e w' ⟨v, he, ho, hz, _⟩ => ?_
    have hs := hf.sent (limit := 1099511627776) (by omega) 512
    have hy : (nextR S (512 : Int).toNat 1099511627776).yes = decide (S.gn < T) := by
      rw [show (512 : Int).toNat = 512 from rfl, hf.next (by omega) 512]
      split
      · rw [eq_comm, decide_eq_false_iff_not]; omega
      · rw [eq_comm, decide_eq_true_iff]; omega
    rw [hy] at he
    obtain ⟨A, c, e1, _⟩ := ho.open_
    exact ⟨v, _, _, he, ⟨A, c, _, e1⟩, _, hz, hs.1, hs.2⟩)
  have HSE : Hid (∀ W p S (T B : Nat), Oz w W p S (fun _ => False) → S.gn = T → Calls Try.prog 19 #[.pointer (some ⟨p, 0, none⟩)] W fun e w' => e = .returned (.int .u64 T) ∧ w' = W) := Lib.hid (fun W p S T B h hg => by
    have := oz_sent h
    rw [hg] at this
    exact this)
  have HAK : Hid (∀ W p S (T B k : Nat), Oz w W p S (fun _ => False) → Fr S T B → S.gn = T → B + k ≤ T → T ≤ 27000 → Calls Try.prog 16 #[.pointer (some ⟨p, 0, none⟩), .int .u64 B, .int .i64 k, .bool false] W fun e w' => e = .returned (.tuple #[]) ∧ ∃ S', Oz w w' p S' (fun _ => False) ∧ Fr S' T (B + k) ∧ S'.gn = T) := Lib.hid (fun W p S T B k h hf hg hk hT => by
    refine (oz_acked h (by rw [hf.len]; omega) B (by omega) k (by omega) false).mono fun e w' hP => ?_
    have := hf.ack k (by omega)
    exact ⟨hP.1, _, hP.2.1, this, hg⟩)
  have HLE : Hid (∀ W p S (T B : Nat), Oz w W p S (fun _ => False) → Fr S T B → T ≤ 27000 → Calls Try.prog 20 #[.pointer (some ⟨p, 0, none⟩)] W fun e w' => e = .returned (.int .u64 T) ∧ Below w.heap.size w w') := Lib.hid (fun W p S T B h hf hT => by
    refine (oz_len h (by rw [hf.len]; omega)).mono fun e w' hP => ⟨by rw [← hf.len]; exact hP.1, hP.2.1.bl⟩)
  have HK := Lib.hid (fun W => known15_any W)
  have HWI := Lib.hid (fun (x : Int) (m : Nat) (W : World) (h0 : -9223372036854775808 ≤ x) (h1 : x < 9223372036854775808) (hm : m ≤ 1000000) => (within_any x 0 m W h0 (by omega) (by omega) (by omega) (by omega)).mono (R' := fun e w' => e = .returned (.int .i64 ((withinS x 0 m).toNat : Nat)) ∧ w' = W) fun e w' hP => ⟨by have := (withinS_bd x 0 m (by omega)).1; rw [hP.1, show (((withinS x 0 m).toNat : Nat) : Int) = withinS x 0 m by omega], hP.2.symm⟩)
  go_enter Try.func5, Try.ntmps5
  go_wp2_with (go_at_call 6; (with_reducible refine HN.out.mono ?_); rintro e w1 ⟨p, rfl, hO1⟩; have HO1 := Lib.hid hO1; clear hO1)
  go_loopg [6, 7, 8] 30 (fun kx s6 s7 s8 wr => ∃ (T B i : Nat), s6 = .int .i64 T ∧ s7 = .int .i64 B ∧ s8 = .int .i64 i ∧ i ≤ n1 ∧ i ≤ 30 ∧ 30 - i ≤ kx ∧ B ≤ T ∧ T - B ≤ 2048 ∧ T ≤ 900 * i ∧ Hid (∃ S, Oz w wr p S (fun _ => False) ∧ Fr S T B ∧ S.gn = T))
  case atStart => exact ⟨0, 0, 0, rfl, rfl, rfl, Nat.zero_le _, by omega, by omega, Nat.le_refl _, by omega, by omega, Lib.hid ⟨_, HO1.out, fr0, rfl⟩⟩
  case round =>
    clear HO1
    obtain ⟨T, B, i, rfl, rfl, rfl, hin, hi30, hkx, hBT, hTB, hTi, hT⟩ := hrel
    obtain ⟨S, hO, hF, hG⟩ := hT.out
    have hB1 : B ≤ 27000 := by omega
    have hT1 : T ≤ 27000 := by omega
    obtain ⟨U, hU⟩ : ∃ U, U = T - B := ⟨_, rfl⟩
    obtain ⟨R, hR⟩ : ∃ R, R = 2048 - U := ⟨_, rfl⟩
    have zU : (T : Int) - (B : Int) = (U : Int) := by omega
    have zR : (2048 : Int) - (U : Int) = (R : Int) := by omega
    have hU1 : U ≤ 2048 := by omega
    have hR1 : R ≤ 2048 := by omega
    have hRT : R = 2048 - (T - B) := by omega
    have HRT := Lib.hid hRT
    clear hU hR hRT
    by_cases hgo : i < n1 ∧ i < 30
    · obtain ⟨g1, g2⟩ := hgo
      obtain ⟨b1, off1, rfl, hb1, hcc1⟩ := (HU1.out.below hO.bl).at_ (by omega)
      obtain ⟨x, hx⟩ : ∃ x, xs1[i]? = some x := ⟨_, List.getElem?_eq_getElem (by rw [HU1.out.len]; exact g1)⟩
      have hxb := HU1.out.wd x (List.mem_of_getElem? hx)
      have cx := hcc1 i x hx
      clear hcc1 hb1 hx
      have hiz : (i : Int) < (n1 : Int) := by omega
      have hi6 : (i : Int) < 30 := by omega
      have HWX : Hid (∀ W, Calls Try.prog 13 #[.int .i64 x, .int .i64 0, .int .i64 900] W fun e w' => e = .returned (.int .i64 ((withinS x 0 (900 : Nat)).toNat : Nat)) ∧ w' = W) := Lib.hid (fun W => HWI.out x 900 W hxb.1 hxb.2 (by omega))
      have hnb := withinS_bd x 0 ((900 : Nat) : Int) (by omega)
      obtain ⟨n, hn⟩ : ∃ n, n = (withinS x 0 (900 : Nat)).toNat := ⟨_, rfl⟩
      rw [← hn] at HWX
      have hn9 : n ≤ 900 := by omega
      clear hn hnb hxb
      have HRX := Lib.hid (HRM.out wr p S _ T B R hO hF HRT.out)
      have HS0 := Lib.hid (And.intro hO (And.intro hF hG))
      clear hO hF hG hT
      have hn8 : n ≤ 140737488355328 := by omega
      rcases Nat.lt_or_ge R n with hmn | hmn
      · have hmz : (R : Int) < (n : Int) := by omega
        have HWX2 := Lib.hid (fun W' g hA hB => HWR.out wr W' g p S T B R n R HS0.out.1 HS0.out.2.1 HRT.out (by omega) hn9 hA hB)
        obtain ⟨T2, hT2⟩ : ∃ T2, T2 = T + R := ⟨_, rfl⟩
        have zT2 : (T : Int) + (R : Int) = (T2 : Int) := by omega
        have hT2b : T2 ≤ 900 * (i + 1) := by omega
        have hT2c : T2 ≤ T + 900 := by omega
        rw [← hT2] at HWX2
        have hBT2 : B ≤ T2 := by omega
        have hTB2 : T2 - B ≤ 2048 := by have := HRT.out; omega
        have hTT : T ≤ T2 := by omega
        have hgS := HS0.out.2.2
        have HGS := Lib.hid hgS
        clear hT2 hgS HS0
        go_wp2_with (first
          | (go_at_call 13; (with_reducible refine (HWX.out _).mono ?_); rintro e w6 ⟨rfl, hw6⟩; rw [hw6]; clear hw6)
          | (go_at_call 9; (with_reducible refine HRX.out.mono ?_); rintro e w6 ⟨rfl, hw6⟩; rw [hw6]; clear hw6)
          | (at_make; refine wpList_make_g (by go_simp) (.tmp 45) (.tmp 45) 22 rfl 5 i0 (.int .u8 0) Try.underlying22 hi hz0 hz1 .i64 .i64 n rfl rfl (by rw [hz2]; omega) (by unfold maxLen; omega) ?_; intro w7 g7 G1 G2 G3; have HC := Lib.hid (HWX2.out w7 g7 G1.out G3.out); clear G1 G2 G3)
          | (go_at_call 8; (with_reducible refine HC.out.mono ?_); rintro e w8 ⟨rfl, hz8⟩; have HZ8 : Hid (∃ S', Oz w w8 p S' (fun _ => False) ∧ Fr S' T2 B ∧ min T2 (T + 512 * 0) ≤ S'.gn) := Lib.hid (by obtain ⟨S', q1, q2, q3⟩ := hz8; exact ⟨S', q1, q2, by rw [q3, HGS.out]; omega⟩); clear hz8))
        go_loopg [11] 20 (fun ky s11 wi => ∃ k : Nat, s11 = .int .i64 k ∧ k ≤ 2 ∧ 20 - k ≤ ky ∧ Hid (∃ S', Oz w wi p S' (fun _ => False) ∧ Fr S' T2 B ∧ min T2 (T + 512 * k) ≤ S'.gn))
        case atStart => exact ⟨0, rfl, by omega, by omega, HZ8⟩
        case round =>
          clear HZ8 HC HRX HWX2
          obtain ⟨k, rfl, hk2, hky, hI⟩ := hrel
          obtain ⟨S2, hO2, hF2, hG2⟩ := hI.out
          have hle2 := hF2.le
          have hkz : (k : Int) < 20 := by omega
          have HNI := Lib.hid (HNX.out _ p S2 T2 B hO2 hF2 (by omega))
          clear hI hO2 hF2
          by_cases hgt : S2.gn < T2
          · have hgd : decide (S2.gn < T2) = true := by simpa using hgt
            rw [hgd] at HNI
            have HG2 := Lib.hid hG2
            have HLE2 := Lib.hid hle2
            have HGT := Lib.hid hgt
            clear hgd hG2 hle2 hgt
            go_wp2_with (go_at_call 14; (with_reducible refine HNI.out.mono ?_); rintro e w9 ⟨v, o, fi, rfl, ⟨A9, c9, n9, rfl⟩, hz9⟩; have HZ9 := Lib.hid hz9; clear hz9)
            go_roundg (20 - (k + 1))
            case measure => omega
            case rel =>
              have := HG2.out
              have := HGT.out
              refine ⟨k + 1, rfl, by omega, by omega, Lib.hid ?_⟩
              obtain ⟨S3, q1, q2, q3⟩ := HZ9.out
              exact ⟨S3, q1, q2, by rw [q3]; omega⟩
          · have hgd : decide (S2.gn < T2) = false := by simpa using hgt
            rw [hgd] at HNI
            have hgT : S2.gn = T2 := by omega
            have HGT := Lib.hid hgT
            clear hgd hG2 hle2 hgt hgT
            have zwT2 : IntKind.u64.wrap (T2 : Int) = (T2 : Int) := by rw [IntKind.wrap_u64]; omega
            by_cases hia : i < n2
            · have hiz2 : (i : Int) < (n2 : Int) := by omega
              obtain ⟨V, hV⟩ : ∃ V, V = T2 - B := ⟨_, rfl⟩
              have zV : (T2 : Int) - (B : Int) = (V : Int) := by omega
              have hVb : V ≤ 27000 := by omega
              have zwB : IntKind.u64.wrap (B : Int) = (B : Int) := by rw [IntKind.wrap_u64]; omega
              obtain ⟨y, hy⟩ : ∃ y, xs2[i]? = some y := ⟨_, List.getElem?_eq_getElem (by rw [HU2.out.len]; exact hia)⟩
              have hyb := HU2.out.wd y (List.mem_of_getElem? hy)
              have HWY := Lib.hid (fun W => HWI.out y V W hyb.1 hyb.2 (by omega))
              have hkb := withinS_bd y 0 V (by omega)
              obtain ⟨m, hm⟩ : ∃ m, m = (withinS y 0 (V : Nat)).toNat := ⟨_, rfl⟩
              rw [← hm] at HWY
              have hmV : m ≤ V := by omega
              clear hm hkb hyb
              obtain ⟨B2, hB2⟩ : ∃ B2, B2 = B + m := ⟨_, rfl⟩
              have zB2 : (B : Int) + (m : Int) = (B2 : Int) := by omega
              have hm8 : m ≤ 27000 := by omega
              have hB2b : B2 ≤ T2 := by omega
              have hTB3 : T2 - B2 ≤ 2048 := by omega
              have HCY : Hid (∀ W, Below w.heap.size w W → ∃ b2 off2, A2 = some ⟨b2, off2, none⟩ ∧ W.cell? ⟨b2, off2 + i, none⟩ = some (.int .i64 y)) := Lib.hid (fun W hB => by
                obtain ⟨b2, off2, e, _, hc⟩ := (HU2.out.below hB).at_ (by omega)
                exact ⟨b2, off2, e, hc i y hy⟩)
              have HAKX := Lib.hid (fun (W : World) S' (h : Oz w W p S' (fun _ => False)) (hf : Fr S' T2 B) (hg : S'.gn = T2) => HAK.out W p S' T2 B m h hf hg (by omega) (by omega))
              rw [← hB2] at HAKX
              clear hy hB2 hV
              obtain ⟨b2, off2, hA2⟩ : ∃ b2 off2, A2 = some ⟨b2, off2, none⟩ := by
                obtain ⟨b2, off2, e, _⟩ := HCY.out w (Below.refl _ _)
                exact ⟨b2, off2, e⟩
              subst hA2
              have HCZ : Hid (∀ W, Below w.heap.size w W → W.cell? ⟨b2, off2 + i, none⟩ = some (.int .i64 y)) := Lib.hid (fun W hB => by
                obtain ⟨b3, off3, e, hc⟩ := HCY.out W hB
                injection e with e
                injection e with e1 e2
                subst e1; subst e2
                exact hc)
              clear HCY
              go_wp2_with (first
                | (go_at_call 14; (with_reducible refine HNI.out.mono ?_); rintro e w9 ⟨v, o, fi, rfl, ⟨A9, c9, n9, rfl⟩, S9, q1, q2, q3⟩; have q4 : S9.gn = T2 := (by rw [q3, HGT.out]; omega); have HSX := Lib.hid (HSE.out w9 p S9 T2 B q1 q4); have HAX := Lib.hid (HAKX.out w9 S9 q1 q2 q4); have cy := HCZ.out w9 q1.bl; clear q1 q2 q3 q4)
                | (go_at_call 19; (with_reducible refine HSX.out.mono ?_); rintro e w6 ⟨rfl, hw6⟩; rw [hw6]; clear hw6)
                | (go_at_call 13; (with_reducible refine (HWY.out _).mono ?_); rintro e w6 ⟨rfl, hw6⟩; rw [hw6]; clear hw6)
                | (go_at_call 16; (with_reducible refine HAX.out.mono ?_); rintro e w10 ⟨rfl, hz10⟩; have HZ10 := Lib.hid hz10; clear hz10))
              go_roundg (30 - (i + 1))
              case measure => omega
              case rel => exact ⟨T2, B2, i + 1, rfl, rfl, rfl, by omega, by omega, by omega, hB2b, hTB3, hT2b, HZ10⟩
            · have hiz2 : ¬ (i : Int) < (n2 : Int) := by omega
              go_wp2_with (first
                | (go_at_call 14; (with_reducible refine HNI.out.mono ?_); rintro e w9 ⟨v, o, fi, rfl, ⟨A9, c9, n9, rfl⟩, S9, q1, q2, q3⟩; have q4 : S9.gn = T2 := (by rw [q3, HGT.out]; omega); have HSX := Lib.hid (HSE.out w9 p S9 T2 B q1 q4); have HZ10 : Hid (∃ S, Oz w w9 p S (fun _ => False) ∧ Fr S T2 B ∧ S.gn = T2) := Lib.hid ⟨S9, q1, q2, q4⟩; clear q1 q2 q3 q4)
                | (go_at_call 19; (with_reducible refine HSX.out.mono ?_); rintro e w6 ⟨rfl, hw6⟩; rw [hw6]; clear hw6))
              go_roundg (30 - (i + 1))
              case measure => omega
              case rel => exact ⟨T2, B, i + 1, rfl, rfl, rfl, by omega, by omega, by omega, hBT2, hTB2, hT2b, HZ10⟩
      · have hmz : ¬ (R : Int) < (n : Int) := by omega
        have HWX2 := Lib.hid (fun W' g hA hB => HWR.out wr W' g p S T B R n n HS0.out.1 HS0.out.2.1 HRT.out (by omega) hn9 hA hB)
        obtain ⟨T2, hT2⟩ : ∃ T2, T2 = T + n := ⟨_, rfl⟩
        have zT2 : (T : Int) + (n : Int) = (T2 : Int) := by omega
        have hT2b : T2 ≤ 900 * (i + 1) := by omega
        have hT2c : T2 ≤ T + 900 := by omega
        rw [← hT2] at HWX2
        have hBT2 : B ≤ T2 := by omega
        have hTB2 : T2 - B ≤ 2048 := by have := HRT.out; omega
        have hTT : T ≤ T2 := by omega
        have hgS := HS0.out.2.2
        have HGS := Lib.hid hgS
        clear hT2 hgS HS0
        go_wp2_with (first
          | (go_at_call 13; (with_reducible refine (HWX.out _).mono ?_); rintro e w6 ⟨rfl, hw6⟩; rw [hw6]; clear hw6)
          | (go_at_call 9; (with_reducible refine HRX.out.mono ?_); rintro e w6 ⟨rfl, hw6⟩; rw [hw6]; clear hw6)
          | (at_make; refine wpList_make_g (by go_simp) (.tmp 45) (.tmp 45) 22 rfl 5 i0 (.int .u8 0) Try.underlying22 hi hz0 hz1 .i64 .i64 n rfl rfl (by rw [hz2]; omega) (by unfold maxLen; omega) ?_; intro w7 g7 G1 G2 G3; have HC := Lib.hid (HWX2.out w7 g7 G1.out G3.out); clear G1 G2 G3)
          | (go_at_call 8; (with_reducible refine HC.out.mono ?_); rintro e w8 ⟨rfl, hz8⟩; have HZ8 : Hid (∃ S', Oz w w8 p S' (fun _ => False) ∧ Fr S' T2 B ∧ min T2 (T + 512 * 0) ≤ S'.gn) := Lib.hid (by obtain ⟨S', q1, q2, q3⟩ := hz8; exact ⟨S', q1, q2, by rw [q3, HGS.out]; omega⟩); clear hz8))
        go_loopg [11] 20 (fun ky s11 wi => ∃ k : Nat, s11 = .int .i64 k ∧ k ≤ 2 ∧ 20 - k ≤ ky ∧ Hid (∃ S', Oz w wi p S' (fun _ => False) ∧ Fr S' T2 B ∧ min T2 (T + 512 * k) ≤ S'.gn))
        case atStart => exact ⟨0, rfl, by omega, by omega, HZ8⟩
        case round =>
          clear HZ8 HC HRX HWX2
          obtain ⟨k, rfl, hk2, hky, hI⟩ := hrel
          obtain ⟨S2, hO2, hF2, hG2⟩ := hI.out
          have hle2 := hF2.le
          have hkz : (k : Int) < 20 := by omega
          have HNI := Lib.hid (HNX.out _ p S2 T2 B hO2 hF2 (by omega))
          clear hI hO2 hF2
          by_cases hgt : S2.gn < T2
          · have hgd : decide (S2.gn < T2) = true := by simpa using hgt
            rw [hgd] at HNI
            have HG2 := Lib.hid hG2
            have HLE2 := Lib.hid hle2
            have HGT := Lib.hid hgt
            clear hgd hG2 hle2 hgt
            go_wp2_with (go_at_call 14; (with_reducible refine HNI.out.mono ?_); rintro e w9 ⟨v, o, fi, rfl, ⟨A9, c9, n9, rfl⟩, hz9⟩; have HZ9 := Lib.hid hz9; clear hz9)
            go_roundg (20 - (k + 1))
            case measure => omega
            case rel =>
              have := HG2.out
              have := HGT.out
              refine ⟨k + 1, rfl, by omega, by omega, Lib.hid ?_⟩
              obtain ⟨S3, q1, q2, q3⟩ := HZ9.out
              exact ⟨S3, q1, q2, by rw [q3]; omega⟩
          · have hgd : decide (S2.gn < T2) = false := by simpa using hgt
            rw [hgd] at HNI
            have hgT : S2.gn = T2 := by omega
            have HGT := Lib.hid hgT
            clear hgd hG2 hle2 hgt hgT
            have zwT2 : IntKind.u64.wrap (T2 : Int) = (T2 : Int) := by rw [IntKind.wrap_u64]; omega
            by_cases hia : i < n2
            · have hiz2 : (i : Int) < (n2 : Int) := by omega
              obtain ⟨V, hV⟩ : ∃ V, V = T2 - B := ⟨_, rfl⟩
              have zV : (T2 : Int) - (B : Int) = (V : Int) := by omega
              have hVb : V ≤ 27000 := by omega
              have zwB : IntKind.u64.wrap (B : Int) = (B : Int) := by rw [IntKind.wrap_u64]; omega
              obtain ⟨y, hy⟩ : ∃ y, xs2[i]? = some y := ⟨_, List.getElem?_eq_getElem (by rw [HU2.out.len]; exact hia)⟩
              have hyb := HU2.out.wd y (List.mem_of_getElem? hy)
              have HWY := Lib.hid (fun W => HWI.out y V W hyb.1 hyb.2 (by omega))
              have hkb := withinS_bd y 0 V (by omega)
              obtain ⟨m, hm⟩ : ∃ m, m = (withinS y 0 (V : Nat)).toNat := ⟨_, rfl⟩
              rw [← hm] at HWY
              have hmV : m ≤ V := by omega
              clear hm hkb hyb
              obtain ⟨B2, hB2⟩ : ∃ B2, B2 = B + m := ⟨_, rfl⟩
              have zB2 : (B : Int) + (m : Int) = (B2 : Int) := by omega
              have hm8 : m ≤ 27000 := by omega
              have hB2b : B2 ≤ T2 := by omega
              have hTB3 : T2 - B2 ≤ 2048 := by omega
              have HCY : Hid (∀ W, Below w.heap.size w W → ∃ b2 off2, A2 = some ⟨b2, off2, none⟩ ∧ W.cell? ⟨b2, off2 + i, none⟩ = some (.int .i64 y)) := Lib.hid (fun W hB => by
                obtain ⟨b2, off2, e, _, hc⟩ := (HU2.out.below hB).at_ (by omega)
                exact ⟨b2, off2, e, hc i y hy⟩)
              have HAKX := Lib.hid (fun (W : World) S' (h : Oz w W p S' (fun _ => False)) (hf : Fr S' T2 B) (hg : S'.gn = T2) => HAK.out W p S' T2 B m h hf hg (by omega) (by omega))
              rw [← hB2] at HAKX
              clear hy hB2 hV
              obtain ⟨b2, off2, hA2⟩ : ∃ b2 off2, A2 = some ⟨b2, off2, none⟩ := by
                obtain ⟨b2, off2, e, _⟩ := HCY.out w (Below.refl _ _)
                exact ⟨b2, off2, e⟩
              subst hA2
              have HCZ : Hid (∀ W, Below w.heap.size w W → W.cell? ⟨b2, off2 + i, none⟩ = some (.int .i64 y)) := Lib.hid (fun W hB => by
                obtain ⟨b3, off3, e, hc⟩ := HCY.out W hB
                injection e with e
                injection e with e1 e2
                subst e1; subst e2
                exact hc)
              clear HCY
              go_wp2_with (first
                | (go_at_call 14; (with_reducible refine HNI.out.mono ?_); rintro e w9 ⟨v, o, fi, rfl, ⟨A9, c9, n9, rfl⟩, S9, q1, q2, q3⟩; have q4 : S9.gn = T2 := (by rw [q3, HGT.out]; omega); have HSX := Lib.hid (HSE.out w9 p S9 T2 B q1 q4); have HAX := Lib.hid (HAKX.out w9 S9 q1 q2 q4); have cy := HCZ.out w9 q1.bl; clear q1 q2 q3 q4)
                | (go_at_call 19; (with_reducible refine HSX.out.mono ?_); rintro e w6 ⟨rfl, hw6⟩; rw [hw6]; clear hw6)
                | (go_at_call 13; (with_reducible refine (HWY.out _).mono ?_); rintro e w6 ⟨rfl, hw6⟩; rw [hw6]; clear hw6)
                | (go_at_call 16; (with_reducible refine HAX.out.mono ?_); rintro e w10 ⟨rfl, hz10⟩; have HZ10 := Lib.hid hz10; clear hz10))
              go_roundg (30 - (i + 1))
              case measure => omega
              case rel => exact ⟨T2, B2, i + 1, rfl, rfl, rfl, by omega, by omega, by omega, hB2b, hTB3, hT2b, HZ10⟩
            · have hiz2 : ¬ (i : Int) < (n2 : Int) := by omega
              go_wp2_with (first
                | (go_at_call 14; (with_reducible refine HNI.out.mono ?_); rintro e w9 ⟨v, o, fi, rfl, ⟨A9, c9, n9, rfl⟩, S9, q1, q2, q3⟩; have q4 : S9.gn = T2 := (by rw [q3, HGT.out]; omega); have HSX := Lib.hid (HSE.out w9 p S9 T2 B q1 q4); have HZ10 : Hid (∃ S, Oz w w9 p S (fun _ => False) ∧ Fr S T2 B ∧ S.gn = T2) := Lib.hid ⟨S9, q1, q2, q4⟩; clear q1 q2 q3 q4)
                | (go_at_call 19; (with_reducible refine HSX.out.mono ?_); rintro e w6 ⟨rfl, hw6⟩; rw [hw6]; clear hw6))
              go_roundg (30 - (i + 1))
              case measure => omega
              case rel => exact ⟨T2, B, i + 1, rfl, rfl, rfl, by omega, by omega, by omega, hBT2, hTB2, hT2b, HZ10⟩
    · have hgo2 : (i = n1 ∧ ¬ (i : Int) < (n1 : Int)) ∨ ((i : Int) < (n1 : Int) ∧ ¬ (i : Int) < 30) := by omega
      clear hgo
      have HRX := Lib.hid (HRM.out wr p S _ T B R hO hF HRT.out)
      have HLX := Lib.hid (HLE.out wr p S T B hO hF hT1)
      clear hO hF hG hT
      have zwT : IntKind.u64.wrap (T : Int) = (T : Int) := by rw [IntKind.wrap_u64]; omega
      rcases hgo2 with ⟨h1, h2⟩ | ⟨h1, h2⟩
      · clear h1
        go_wp2_with (first
          | (go_at_call 9; (with_reducible refine HRX.out.mono ?_); rintro e w6 ⟨rfl, hw6⟩; rw [hw6]; clear hw6)
          | (go_at_call 20; (with_reducible refine HLX.out.mono ?_); rintro e w7 ⟨rfl, hb7⟩; have HB7 := Lib.hid hb7; clear hb7)
          | (go_at_call 10; (with_reducible refine (HK.out _).mono ?_); rintro e w8 ⟨rfl, hb8⟩; have HB8 := Lib.hid hb8; clear hb8))
        go_ret
        exact ⟨by first | rfl | simp, HB7.out.trans (HB8.out.mono HB7.out.size)⟩
      · have h2' : ¬ (i : Int) < 30 := h2
        clear h2
        go_wp2_with (first
          | (go_at_call 9; (with_reducible refine HRX.out.mono ?_); rintro e w6 ⟨rfl, hw6⟩; rw [hw6]; clear hw6)
          | (go_at_call 20; (with_reducible refine HLX.out.mono ?_); rintro e w7 ⟨rfl, hb7⟩; have HB7 := Lib.hid hb7; clear hb7)
          | (go_at_call 10; (with_reducible refine (HK.out _).mono ?_); rintro e w8 ⟨rfl, hb8⟩; have HB8 := Lib.hid hb8; clear hb8))
        go_ret
        exact ⟨by first | rfl | simp, HB7.out.trans (HB8.out.mono HB7.out.size)⟩
end Go.Proofs.Ytoakahofiodbhaa
