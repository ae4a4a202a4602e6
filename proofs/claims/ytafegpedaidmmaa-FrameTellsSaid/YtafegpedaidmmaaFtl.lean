/-
  FrameTells: frames are written, read, held against one another as the document says, for any.
-/
import Derived.Test.YtafegpedaidmmaaFes
import Derived.Test.YtafegpedaidmmaaMk
import Derived.Test.YtafegpedaidmmaaFrt
import Derived.Test.YtafegpedaidmmaaFs
import Derived.Test.YtafegpedaidmmaaPlace
import Derived.IntWalk
namespace Go.Proofs.Ytafegpedaidmmaa
set_option linter.unusedVariables false
set_option linter.unusedSimpArgs false
open Go.RowKit
structure FtS (w : World) (B : Nat) (Al : Option Addr) (ml : Nat) (L : List FR) (A2 : Option Addr) (nr : Nat) (Lr : List FR) (A3 : Option Addr) (n3 c3 : Nat) (bs3 : List Int) (W : World) : Prop where
  fl : FrsP W (fun b => b < B) Al ml L
  fr : FrsP W (fun b => b < B) A2 nr Lr
  d3 : InD W (fun b => b < B) ⟨A3, n3, c3⟩ bs3
  bl : Below w.heap.size w W
  bs : B ≤ W.heap.size
  wB : w.heap.size ≤ B
section
variable {w : World} {B : Nat} {Al : Option Addr} {ml : Nat} {L : List FR} {A2 : Option Addr} {nr : Nat} {Lr : List FR} {A3 : Option Addr} {n3 c3 : Nat} {bs3 : List Int} {W W' : World}
theorem FtS.below (h : FtS w B Al ml L A2 nr Lr A3 n3 c3 bs3 W) (hb : Below W.heap.size W W') : FtS w B Al ml L A2 nr Lr A3 n3 c3 bs3 W' :=
  ⟨h.fl.below hb, h.fr.below hb, h.d3.below_ hb, h.bl.trans (hb.mono h.bl.size), Nat.le_trans h.bs hb.size, h.wB⟩
theorem FtS.set (h : FtS w B Al ml L A2 nr Lr A3 n3 c3 bs3 W) (g : Nat) (hk : Kept (· = g) W W') (hg : B ≤ g) : FtS w B Al ml L A2 nr Lr A3 n3 c3 bs3 W' :=
  ⟨h.fl.kept hk (fun b hb e => by omega), h.fr.kept hk (fun b hb e => by omega), h.d3.kept hk (fun b hb e => by omega), hk.below h.bl h.bl.size (fun j hj => by have := h.wB; omega), Nat.le_trans h.bs hk.size, h.wB⟩
theorem FrsP.take {P : Nat → Prop} {A : Option Addr} {n : Nat} {M : List FR} (h : FrsP W P A n M) (k : Nat) (hk : k ≤ n) : FrsP W P A k (M.take k) := by
  refine ⟨by rw [List.length_take, h.1]; omega, fun hp => ?_, fun x hx => h.2.2 x (List.mem_of_mem_take hx)⟩
  obtain ⟨b, off, e, hb, hP, hc⟩ := h.2.1 (by omega)
  refine ⟨b, off, e, hb, hP, fun i x hx => hc i x ?_⟩
  have hi := (List.getElem?_eq_some_iff.1 hx).1
  rw [List.length_take] at hi
  rwa [List.getElem?_take_of_lt (by omega)] at hx
end
theorem encS_pos (L : List FR) (h : 0 < L.length) (hr : L.all FR.right = true) : 0 < (encS L).length := by
  match L, h with
  | x :: t, _ =>
    simp only [List.all_cons, Bool.and_eq_true] at hr
    have := one_pos x.m x.ds x.rs hr.1
    unfold encS
    rw [List.flatMap_cons, List.length_append]; omega
set_option maxRecDepth 100000 in
set_option maxHeartbeats 8000000 in
theorem ftells_walk (A0 : Option Addr) (n0 c0 : Nat) (X0 : List FX) (A1 : Option Addr) (n1 c1 : Nat) (X1 : List FX) (A2 : Option Addr) (n2 c2 : Nat) (L2 : List FR) (A3 : Option Addr) (n3 c3 : Nat) (bs3 : List Int) (aat turn : Int) (w : World)
    (w0 : FxP w A0 n0 X0) (wn0 : n0 ≤ c0) (wc0 : c0 ≤ maxLen) (w1 : FxP w A1 n1 X1) (wn1 : n1 ≤ c1) (wc1 : c1 ≤ maxLen) (w2 : FrsP w (fun _ => True) A2 n2 L2) (wn2 : n2 ≤ c2) (wc2 : c2 ≤ maxLen) (w3 : InRow w A3 n3 c3 bs3)
    (ba : -9223372036854775808 ≤ aat ∧ aat ≤ 9223372036854775807) (bt : 0 ≤ turn ∧ turn < 256) :
    Calls Try.prog 4 #[.slice A0 n0 c0, .slice A1 n1 c1, .slice A2 n2 c2, .slice A3 n3 c3, .int .i64 aat, .int .u8 turn] w fun e w'' => e = .returned (.bool true) ∧ Below w.heap.size w w'' := by
  have hD := w3.inDl
  have hk0 := kframes_any A0 n0 c0 X0 8 w w0 wn0 wc0 (by decide)
  have hk1 := fun W (hb : Below w.heap.size w W) => kframes_any A1 n1 c1 X1 8 W (w1.below hb) wn1 wc1 (by decide)
  have HK0 := Lib.hid hk0
  have HK1 := Lib.hid hk1
  have HW2 := Lib.hid w2
  have HD := Lib.hid hD
  have HCW := Lib.hid (fun (hi : Int) (h0 : 0 ≤ hi) (h1 : hi ≤ 4611686018427387902) W' => within_any aat 0 hi W' ba.1 ba.2 (by decide) h0 h1)
  have HWB := Lib.hid (fun (hi : Int) (h0 : 0 ≤ hi) => withinS_bd aat 0 hi h0)
  have KN := Lib.hid fknown_any
  have hcm2 := wc2
  unfold maxLen at hcm2
  clear hk0 hk1 w0 w1 w2 w3 hD wn0 wc0 wn1 wc1 ba wc2
  go_enter Try.func4, Try.ntmps4
  go_wp2_with fail
  refine HK0.out.mono ?_
  rintro e v1 ⟨Al, cl, L, rfl, hfl, hlc, hlm, hlr, hb1⟩
  have HFL0 := Lib.hid hfl
  have HB1 := Lib.hid hb1
  clear HK0 hfl hb1
  go_wp2_with fail
  refine (HK1.out v1 HB1.out).mono ?_
  rintro e v2 ⟨Am, cm, M, rfl, hfm, hmc, hmm, hmr, hb2⟩
  have HB2 := Lib.hid (HB1.out.trans (hb2.mono HB1.out.size))
  have HFL := Lib.hid ((HFL0.out.below hb2).mono (P' := fun b => b < v2.heap.size) (fun b hb _ => hb))
  have HFM := Lib.hid hfm
  have hw2 := ((HW2.out.below HB1.out).below hb2).mono (P' := fun b => b < v2.heap.size) (fun b hb _ => hb)
  have HRW := Lib.hid hw2
  have hd3a := (HD.out.below_ HB1.out).below_ hb2
  have hd3 : InD v2 (fun b => b < v2.heap.size) ⟨A3, n3, c3⟩ bs3 := ⟨hd3a.rd.mono (fun b hb _ => hb), hd3a.lc, hd3a.cm, hd3a.nil⟩
  have HD3 := Lib.hid hd3
  have HLR := Lib.hid hlr
  obtain ⟨ml, hml⟩ : ∃ x, min n0 8 = x := ⟨_, rfl⟩
  obtain ⟨mm, hmm8⟩ : ∃ x, min n1 8 = x := ⟨_, rfl⟩
  have hml8 : ml ≤ 8 := by omega
  have hmm88 : mm ≤ 8 := by omega
  rw [hml] at HFL hlc ⊢
  rw [hmm8] at HFM hmc ⊢
  have HLL := Lib.hid HFL.out.1
  clear HFL0 HB1 hb2 hfm hw2 hd3 HK1 HW2 HD hlr hmr hml hmm8 hmm
  have hvs := HB2.out.size
  rcases Nat.eq_zero_or_pos ml with hz | hz
  · by_cases h4 : 4 < n2
    · subst hz
      obtain ⟨b2, o2, e2, _⟩ := HRW.out.2.1 (by omega)
      subst e2
      have HRQ := Lib.hid (HRW.out.take 4 (by omega))
      have hd4 : decide ((4 : Int) < (n2 : Int)) = true := by simp; omega
      have hc4 : ((c2 : Int) < 4) = False := by simp; omega
      have HS0 : Hid (FtS w v2.heap.size Al 0 L (some ⟨b2, o2, none⟩) 4 (L2.take 4) A3 n3 c3 bs3 v2) := Lib.hid ⟨HFL.out, HRQ.out, HD3.out, HB2.out, Nat.le_refl _, hvs⟩
      clear HRQ HD3 HRW
      go_wp2_with fail
      go_loopw [15] (fun i wr => ∃ k : Nat, k ≤ 0 ∧ k ≤ mm ∧ i = .int .i64 k ∧ Hid (Below v2.heap.size v2 wr)) (fun i _ => 0 - (intOf i).toNat)
      case atStart => exact ⟨0, Nat.zero_le _, Nat.zero_le _, rfl, Lib.hid (Below.refl _ _)⟩
      case round =>
        obtain ⟨k, hk, hkm, rfl, hbr⟩ := hrel
        obtain rfl : k = 0 := by omega
        have hS := HS0.out.below hbr.out
        clear hbr HS0
        have HEN := Lib.hid (rencode_any _ Al 0 cl L wr hS.fl (by omega) hlc HLR.out)
        go_wp2_with fail
        refine HEN.out.mono ?_
        clear HEN
        rintro e w5 ⟨v5, rfl, hown5, hb5⟩
        have hS5 := hS.below hb5
        have hLe : L = [] := List.eq_nil_of_length_eq_zero HLL.out
        obtain ⟨A5, c5, rfl, l5, m5, r5⟩ := hown5.open_n 0 (by rw [hLe]; rfl)
        have n5 := hown5.nil_cap
        have hInR : InRow w5 A5 0 c5 (encS L) := ⟨r5, l5, m5, n5⟩
        clear hown5 r5 hS hb5 hLe
        have hS6 := hS5
        have HE1 := Lib.hid (fencs_any _ Al 0 cl L w5 hS6.fl (by omega) hlc)
        go_wp2_with fail
        refine HE1.out.mono ?_
        rintro e w7 ⟨rfl, hb7⟩
        have hS7 := hS6.below hb7
        have hIn7 : InRow w7 A5 0 c5 (encS L) := ⟨(hInR.1.below hb7).more hb7.size, hInR.2⟩
        clear HE1 hb7 hS6 hInR
        have HE2 := Lib.hid (fencs_any _ (some ⟨b2, o2, none⟩) 4 c2 (L2.take 4) w7 hS7.fr (by omega) (by omega))
        go_wp2_with fail
        refine HE2.out.mono ?_
        rintro e w8 ⟨rfl, hb8⟩
        have hS8 := hS7.below hb8
        have hIn8 : InRow w8 A5 0 c5 (encS L) := ⟨(hIn7.1.below hb8).more hb8.size, hIn7.2⟩
        clear HE2 hb8 hS7 hIn7
        have HE3 := Lib.hid (fdecs_any A5 0 c5 (encS L) w8 hIn8 (by omega))
        go_wp2_with fail
        refine HE3.out.mono ?_
        rintro e w9 ⟨rfl, hb9⟩
        have hS9 := hS8.below hb9
        clear HE3 hb9 hS8 hIn8
        have hD9 := hS9.d3
        go_wp2_with fail
        refine (cut_any A3 n3 c3 80 w9 hD9.lc hD9.cm (by decide) (fun h e => by have h1 : n3 ≤ c3 := hD9.lc; have h2 : c3 = 0 := hD9.nil e; omega)).mono ?_
        rintro e w' ⟨rfl, rfl⟩
        have hcut := hD9.cutTo_ 80
        have hm80 : min n3 80 ≤ 80 := Nat.min_le_right _ _
        obtain ⟨rn, hrn⟩ : ∃ x, min n3 80 = x := ⟨_, rfl⟩
        rw [hrn] at hcut hm80 ⊢
        clear hrn
        go_wp2_with fail
        refine (fdecs_any A3 rn c3 _ w9 ⟨hcut.rd.1, hcut.lc, hcut.cm, hcut.nil⟩ (by omega)).mono ?_
        rintro e w10 ⟨rfl, hb10⟩
        have hS10 := hS9.below hb10
        clear hD9 hcut hb10 hS9
        go_wp2_with fail
        refine (KN.out _).mono ?_
        rintro e w11 ⟨rfl, hb11⟩
        have hS11 := hS10.below hb11
        go_wp2_with fail
        go_ret
        exact ⟨rfl, hS11.bl⟩
    · subst hz
      have HRQ := HRW
      have hd4 : decide ((4 : Int) < (n2 : Int)) = false := by simp; omega
      have HS0 : Hid (FtS w v2.heap.size Al 0 L A2 n2 L2 A3 n3 c3 bs3 v2) := Lib.hid ⟨HFL.out, HRQ.out, HD3.out, HB2.out, Nat.le_refl _, hvs⟩
      clear HRQ HD3 HRW
      go_wp2_with fail
      go_loopw [15] (fun i wr => ∃ k : Nat, k ≤ 0 ∧ k ≤ mm ∧ i = .int .i64 k ∧ Hid (Below v2.heap.size v2 wr)) (fun i _ => 0 - (intOf i).toNat)
      case atStart => exact ⟨0, Nat.zero_le _, Nat.zero_le _, rfl, Lib.hid (Below.refl _ _)⟩
      case round =>
        obtain ⟨k, hk, hkm, rfl, hbr⟩ := hrel
        obtain rfl : k = 0 := by omega
        have hS := HS0.out.below hbr.out
        clear hbr HS0
        have HEN := Lib.hid (rencode_any _ Al 0 cl L wr hS.fl (by omega) hlc HLR.out)
        go_wp2_with fail
        refine HEN.out.mono ?_
        clear HEN
        rintro e w5 ⟨v5, rfl, hown5, hb5⟩
        have hS5 := hS.below hb5
        have hLe : L = [] := List.eq_nil_of_length_eq_zero HLL.out
        obtain ⟨A5, c5, rfl, l5, m5, r5⟩ := hown5.open_n 0 (by rw [hLe]; rfl)
        have n5 := hown5.nil_cap
        have hInR : InRow w5 A5 0 c5 (encS L) := ⟨r5, l5, m5, n5⟩
        clear hown5 r5 hS hb5 hLe
        have hS6 := hS5
        have HE1 := Lib.hid (fencs_any _ Al 0 cl L w5 hS6.fl (by omega) hlc)
        go_wp2_with fail
        refine HE1.out.mono ?_
        rintro e w7 ⟨rfl, hb7⟩
        have hS7 := hS6.below hb7
        have hIn7 : InRow w7 A5 0 c5 (encS L) := ⟨(hInR.1.below hb7).more hb7.size, hInR.2⟩
        clear HE1 hb7 hS6 hInR
        have HE2 := Lib.hid (fencs_any _ A2 n2 c2 L2 w7 hS7.fr (by omega) wn2)
        go_wp2_with fail
        refine HE2.out.mono ?_
        rintro e w8 ⟨rfl, hb8⟩
        have hS8 := hS7.below hb8
        have hIn8 : InRow w8 A5 0 c5 (encS L) := ⟨(hIn7.1.below hb8).more hb8.size, hIn7.2⟩
        clear HE2 hb8 hS7 hIn7
        have HE3 := Lib.hid (fdecs_any A5 0 c5 (encS L) w8 hIn8 (by omega))
        go_wp2_with fail
        refine HE3.out.mono ?_
        rintro e w9 ⟨rfl, hb9⟩
        have hS9 := hS8.below hb9
        clear HE3 hb9 hS8 hIn8
        have hD9 := hS9.d3
        go_wp2_with fail
        refine (cut_any A3 n3 c3 80 w9 hD9.lc hD9.cm (by decide) (fun h e => by have h1 : n3 ≤ c3 := hD9.lc; have h2 : c3 = 0 := hD9.nil e; omega)).mono ?_
        rintro e w' ⟨rfl, rfl⟩
        have hcut := hD9.cutTo_ 80
        have hm80 : min n3 80 ≤ 80 := Nat.min_le_right _ _
        obtain ⟨rn, hrn⟩ : ∃ x, min n3 80 = x := ⟨_, rfl⟩
        rw [hrn] at hcut hm80 ⊢
        clear hrn
        go_wp2_with fail
        refine (fdecs_any A3 rn c3 _ w9 ⟨hcut.rd.1, hcut.lc, hcut.cm, hcut.nil⟩ (by omega)).mono ?_
        rintro e w10 ⟨rfl, hb10⟩
        have hS10 := hS9.below hb10
        clear hD9 hcut hb10 hS9
        go_wp2_with fail
        refine (KN.out _).mono ?_
        rintro e w11 ⟨rfl, hb11⟩
        have hS11 := hS10.below hb11
        go_wp2_with fail
        go_ret
        exact ⟨rfl, hS11.bl⟩
  rcases Nat.lt_or_ge mm ml with hlm' | hlm'
  · by_cases h4 : 4 < n2
    · obtain ⟨b2, o2, e2, _⟩ := HRW.out.2.1 (by omega)
      subst e2
      have HRQ := Lib.hid (HRW.out.take 4 (by omega))
      have hd4 : decide ((4 : Int) < (n2 : Int)) = true := by simp; omega
      have hc4 : ((c2 : Int) < 4) = False := by simp; omega
      have HS0 : Hid (FtS w v2.heap.size Al ml L (some ⟨b2, o2, none⟩) 4 (L2.take 4) A3 n3 c3 bs3 v2) := Lib.hid ⟨HFL.out, HRQ.out, HD3.out, HB2.out, Nat.le_refl _, hvs⟩
      clear HRQ HD3 HRW
      go_wp2_with fail
      go_loopw [15] (fun i wr => ∃ k : Nat, k ≤ ml ∧ k ≤ mm ∧ i = .int .i64 k ∧ Hid (Below v2.heap.size v2 wr)) (fun i _ => ml - (intOf i).toNat)
      case atStart => exact ⟨0, Nat.zero_le _, Nat.zero_le _, rfl, Lib.hid (Below.refl _ _)⟩
      case round =>
        obtain ⟨k, hk, hkm, rfl, hbr⟩ := hrel
        by_cases hlt : k < mm
        · have hkl : k < ml := by omega
          have hkmm : k < mm := by omega
          have hf1 := HFL.out.below hbr.out
          have hf2 := HFM.out.below hbr.out
          obtain ⟨bl, ol, rfl, hbl, hPl, hcl⟩ := hf1.2.1 (by omega)
          obtain ⟨bm, om, rfl, hbm, hPm, hcm⟩ := hf2.2.1 (by omega)
          obtain ⟨x, hx⟩ : ∃ x, L[k]? = some x := ⟨_, List.getElem?_eq_getElem (by rw [HLL.out]; exact hkl)⟩
          obtain ⟨y, hy⟩ : ∃ y, M[k]? = some y := ⟨_, List.getElem?_eq_getElem (by rw [HFM.out.1]; exact hkmm)⟩
          have hra := hcl k x hx
          have hrb := hcm k y hy
          have hfx : Fits wr (fun _ => True) x.m x.d x.r x.ds x.rs := (hf1.2.2 x (List.mem_of_getElem? hx)).mono (fun _ _ _ => trivial)
          have hfy : Fits wr (fun _ => True) y.m y.d y.r y.ds y.rs := (hf2.2.2 y (List.mem_of_getElem? hy)).mono (fun _ _ _ => trivial)
          have hs1 : ∀ W, Below wr.heap.size wr W → Calls Try.prog 9 #[frV x.m x.d x.r, frV y.m y.d y.r] W (FrPost (.bool (sameB x.m y.m x.ds y.ds x.rs y.rs)) W) := fun W hW => fsame2_any _ _ _ _ _ _ _ _ _ _ _ W (hfx.below hW) (hfy.below hW)
          have hs2 : ∀ W, Below wr.heap.size wr W → Calls Try.prog 10 #[frV x.m x.d x.r, frV y.m y.d y.r] W (FrPost (.bool (sameB x.m y.m x.ds y.ds x.rs y.rs)) W) := fun W hW => rsame_any _ _ _ _ _ _ _ _ _ _ _ W (hfx.below hW) (hfy.below hW)
          obtain ⟨f1, hf1'⟩ : ∃ z, frL x.m x.d x.r = z := ⟨_, rfl⟩
          obtain ⟨f2, hf2'⟩ : ∃ z, frL y.m y.d y.r = z := ⟨_, rfl⟩
          have hl1 : f1.length = 19 := by rw [← hf1']; rfl
          have hl2 : f2.length = 19 := by rw [← hf2']; rfl
          have hv1 : frV x.m x.d x.r = .agg f1.toArray := by rw [← hf1']; rfl
          have hv2 : frV y.m y.d y.r = .agg f2.toArray := by rw [← hf2']; rfl
          rw [hf1'] at hra
          rw [hf2'] at hrb
          rw [hv1, hv2] at hs1 hs2
          obtain ⟨sb, hsb⟩ : ∃ z, sameB x.m y.m x.ds y.ds x.rs y.rs = z := ⟨_, rfl⟩
          rw [hsb] at hs1 hs2
          have HL1 := Lib.hid hl1
          have HL2 := Lib.hid hl2
          have HS1 := Lib.hid hs1
          have HS2 := Lib.hid hs2
          have HR1 := Lib.hid (fun W (hW : Below wr.heap.size wr W) => rangeAt_kept hra (Kept.of_below hW (fun _ => False)) hbl (fun h => h))
          have HR2 := Lib.hid (fun W (hW : Below wr.heap.size wr W) => rangeAt_kept hrb (Kept.of_below hW (fun _ => False)) hbm (fun h => h))
          have hsbb : (sb != sb) = false := by simp
          clear hf1 hf2 hx hy hra hrb hfx hfy hs1 hs2 hf1' hf2' hl1 hl2 hv1 hv2 hsb hcl hcm hPl hPm
          go_wp2_with fail
          have q0 : Below wr.heap.size wr wr.drew := belowN (Below.refl _ _) 1
          refine wp_region_held_drew (S := (fun W => Below wr.heap.size wr W)) (by kernel_rfl) (q0) (fun hHeld => ?_)
          refine tkp 0 (some 38) (v := ?_) rfl (Or.inl ⟨by rfl, ?_⟩) (by assumption) ?_
          rotate_left
          · intro w hSw; go_simp; first | done | (with_reducible rfl)
          simp only [Act.put, List.setIfInBounds_toArray, List.set_cons_zero, List.set_cons_succ]
          refine tkp 1 (some 39) (v := ?_) rfl (Or.inl ⟨by rfl, ?_⟩) (by assumption) ?_
          rotate_left
          · intro w hSw; go_simp; first | done | (with_reducible rfl)
          simp only [Act.put, List.setIfInBounds_toArray, List.set_cons_zero, List.set_cons_succ]
          refine tkp 2 (some 40) (v := ?_) rfl (Or.inl ⟨by rfl, ?_⟩) (by assumption) ?_
          rotate_left
          · intro w hSw; go_simp; first | done | (with_reducible rfl)
          simp only [Act.put, List.setIfInBounds_toArray, List.set_cons_zero, List.set_cons_succ]
          refine take_dst (i := 3) (dst := some 41) rfl rfl (by kernel_rfl) (by kernel_rfl) (by kernel_rfl) (fun _ _ _ h => h) (v := ?_) ?_ (by assumption) ?_
          rotate_left
          · refine yl_any 31 (.tmp 40) ?_ bl (ol + k * 19) ?_ f1 _ ?_ Try.underlying31 rfl ?_ ?_
            · rfl
            · rfl
            · intro w hSw; exact HR1.out _ hSw
            · rw [HL1.out]; exact fr_info
            · rfl
          simp only [Act.put, List.setIfInBounds_toArray, List.set_cons_zero, List.set_cons_succ]
          refine tkp 4 (some 42) (v := ?_) rfl (Or.inl ⟨by rfl, ?_⟩) (by assumption) ?_
          rotate_left
          · intro w hSw; go_simp; first | done | (with_reducible rfl)
          simp only [Act.put, List.setIfInBounds_toArray, List.set_cons_zero, List.set_cons_succ]
          refine tkp 5 (some 43) (v := ?_) rfl (Or.inl ⟨by rfl, ?_⟩) (by assumption) ?_
          rotate_left
          · intro w hSw; go_simp; first | done | (with_reducible rfl)
          simp only [Act.put, List.setIfInBounds_toArray, List.set_cons_zero, List.set_cons_succ]
          refine tkp 6 (some 44) (v := ?_) rfl (Or.inl ⟨by rfl, ?_⟩) (by assumption) ?_
          rotate_left
          · intro w hSw; go_simp; first | done | (with_reducible rfl)
          simp only [Act.put, List.setIfInBounds_toArray, List.set_cons_zero, List.set_cons_succ]
          refine take_dst (i := 7) (dst := some 45) rfl rfl (by kernel_rfl) (by kernel_rfl) (by kernel_rfl) (fun _ _ _ h => h) (v := ?_) ?_ (by assumption) ?_
          rotate_left
          · refine yl_any 31 (.tmp 44) ?_ bm (om + k * 19) ?_ f2 _ ?_ Try.underlying31 rfl ?_ ?_
            · rfl
            · rfl
            · intro w hSw; exact HR2.out _ hSw
            · rw [HL2.out]; exact fr_info
            · rfl
          simp only [Act.put, List.setIfInBounds_toArray, List.set_cons_zero, List.set_cons_succ]
          refine tkp 9 (some 47) (v := ?_) rfl (Or.inl ⟨by rfl, ?_⟩) (by assumption) ?_
          rotate_left
          · intro w hSw; go_simp; first | done | (with_reducible rfl)
          simp only [Act.put, List.setIfInBounds_toArray, List.set_cons_zero, List.set_cons_succ]
          refine tkp 10 (some 48) (v := ?_) rfl (Or.inl ⟨by rfl, ?_⟩) (by assumption) ?_
          rotate_left
          · intro w hSw; go_simp; first | done | (with_reducible rfl)
          simp only [Act.put, List.setIfInBounds_toArray, List.set_cons_zero, List.set_cons_succ]
          refine tkp 11 (some 49) (v := ?_) rfl (Or.inl ⟨by rfl, ?_⟩) (by assumption) ?_
          rotate_left
          · intro w hSw; go_simp; first | done | (with_reducible rfl)
          simp only [Act.put, List.setIfInBounds_toArray, List.set_cons_zero, List.set_cons_succ]
          refine take_dst (i := 12) (dst := some 50) rfl rfl (by kernel_rfl) (by kernel_rfl) (by kernel_rfl) (fun _ _ _ h => h) (v := ?_) ?_ (by assumption) ?_
          rotate_left
          · refine yl_any 31 (.tmp 49) ?_ bl (ol + k * 19) ?_ f1 _ ?_ Try.underlying31 rfl ?_ ?_
            · rfl
            · rfl
            · intro w hSw; exact HR1.out _ hSw
            · rw [HL1.out]; exact fr_info
            · rfl
          simp only [Act.put, List.setIfInBounds_toArray, List.set_cons_zero, List.set_cons_succ]
          refine tkp 13 (some 51) (v := ?_) rfl (Or.inl ⟨by rfl, ?_⟩) (by assumption) ?_
          rotate_left
          · intro w hSw; go_simp; first | done | (with_reducible rfl)
          simp only [Act.put, List.setIfInBounds_toArray, List.set_cons_zero, List.set_cons_succ]
          refine tkp 14 (some 52) (v := ?_) rfl (Or.inl ⟨by rfl, ?_⟩) (by assumption) ?_
          rotate_left
          · intro w hSw; go_simp; first | done | (with_reducible rfl)
          simp only [Act.put, List.setIfInBounds_toArray, List.set_cons_zero, List.set_cons_succ]
          refine tkp 15 (some 53) (v := ?_) rfl (Or.inl ⟨by rfl, ?_⟩) (by assumption) ?_
          rotate_left
          · intro w hSw; go_simp; first | done | (with_reducible rfl)
          simp only [Act.put, List.setIfInBounds_toArray, List.set_cons_zero, List.set_cons_succ]
          refine take_dst (i := 16) (dst := some 54) rfl rfl (by kernel_rfl) (by kernel_rfl) (by kernel_rfl) (fun _ _ _ h => h) (v := ?_) ?_ (by assumption) ?_
          rotate_left
          · refine yl_any 31 (.tmp 53) ?_ bm (om + k * 19) ?_ f2 _ ?_ Try.underlying31 rfl ?_ ?_
            · rfl
            · rfl
            · intro w hSw; exact HR2.out _ hSw
            · rw [HL2.out]; exact fr_info
            · rfl
          simp only [Act.put, List.setIfInBounds_toArray, List.set_cons_zero, List.set_cons_succ]
          refine wpAnyH_ready (rs := [8]) (by kernel_rfl) (by simp) ?_
          refine AllReadyH.cons rfl (fun K hK => ?_) AllReadyH.nil
          go_simp
          go_wp2_with ((go_at_call 9; refine (HS1.out _ q0).mono ?_; rintro e w5 ⟨rfl, hb5⟩; have q1 := q0.trans (hb5.mono q0.size)))
          refine hK.out _ _ (q1) (fun hHeld => ?_)
          clear hK K
          refine wpAnyH_ready (rs := [17]) (by kernel_rfl) (by simp) ?_
          refine AllReadyH.cons rfl (fun K hK => ?_) AllReadyH.nil
          go_simp
          go_wp2_with ((go_at_call 10; refine (HS2.out _ q1).mono ?_; rintro e w6 ⟨rfl, hb6⟩; have q2 := q1.trans (hb6.mono q1.size)))
          refine hK.out _ _ (q2) (fun hHeld => ?_)
          clear hK K
          refine tkp 18 (some 56) (v := ?_) rfl (Or.inl ⟨by rfl, ?_⟩) (by assumption) ?_
          rotate_left
          · intro w hSw; go_simp; first | done | (with_reducible rfl)
          simp only [Act.put, List.setIfInBounds_toArray, List.set_cons_zero, List.set_cons_succ]
          refine wpAnyH_done (by kernel_rfl) ?_ _
          have hbq : Hid (Below v2.heap.size v2 _) := Lib.hid (hbr.out.trans (q2.mono hbr.out.size))
          go_wp2_with fail
          go_roundw
          case rel => exact ⟨k + 1, by omega, by omega, by go_num, hbq⟩
          case measure => simp [intOf] <;> omega
        · obtain rfl : k = mm := by omega
          have hkl : k < ml := by omega
          have hS := HS0.out.below hbr.out
          clear hbr HS0
          have HEN := Lib.hid (rencode_any _ Al ml cl L wr hS.fl (by omega) hlc HLR.out)
          go_wp2_with fail
          refine HEN.out.mono ?_
          clear HEN
          rintro e w5 ⟨v5, rfl, hown5, hb5⟩
          have hS5 := hS.below hb5
          have hEp := encS_pos L (by rw [HLL.out]; exact hz) HLR.out
          have hEb := encS_len L HLR.out
          rw [HLL.out] at hEb
          obtain ⟨E, hE⟩ : ∃ z, encS L = z := ⟨_, rfl⟩
          rw [hE] at hown5 hEp hEb
          obtain ⟨N, hN⟩ : ∃ z, E.length = z := ⟨_, rfl⟩
          rw [hN] at hEp hEb
          obtain ⟨g15, c15, l15, rfl, hA15, hl15, htk15, hbg15, hnc15, hcm15⟩ := hown5.place (by rw [hN]; exact hEp)
          rw [hN] at hnc15 ⊢
          have hc15 := hcm15
          unfold maxLen at hc15
          have hby := hown5.byt
          have hwin := HWB.out ((N : Int) - 1) (by omega)
          obtain ⟨qq, hqq⟩ : ∃ z, withinS aat 0 ((N : Int) - 1) = z := ⟨_, rfl⟩
          have HC2 := Lib.hid (fun W' => HCW.out ((N : Int) - 1) (by omega) (by omega) W')
          rw [hqq] at HC2 hwin
          obtain ⟨q, rfl⟩ := Int.eq_ofNat_of_zero_le (show 0 ≤ qq by omega)
          have hq : q < N := by omega
          obtain ⟨xq, hxq⟩ : ∃ z, E[q]? = some z := ⟨_, List.getElem?_eq_getElem (by rw [hN]; exact hq)⟩
          have hxb := hby xq (List.mem_of_getElem? hxq)
          obtain ⟨z0, z1⟩ := b_xor xq turn hxb.1 hxb.2 bt.1 bt.2
          obtain ⟨Z, hZ⟩ : ∃ z, bits BinOp.xor IntKind.u8 xq turn = z := ⟨_, rfl⟩
          rw [hZ] at z0 z1
          have y0 := place_cell hA15 htk15 q xq hxq
          have fy := hA15.frozen q
          have hwrap : IntKind.i64.wrap ((N : Int) - 1) = (N : Int) - 1 := IntWalk.i64_in _ (by omega)
          have hYo := place_set hA15 hl15 htk15 hby hbg15 (by rw [hN]; exact hnc15) hcm15 q Z ⟨z0, z1⟩
          have hk6 : Kept (· = g15) w5 (w5.setCell ⟨g15, q, none⟩ (.int .u8 Z)) := (Kept.refl _ _).setAt _ _
          have hS6 := hS5.set g15 hk6 (by have := hS5.wB; have h7 := hS.bs; omega)
          have hNpos : decide ((0 : Int) < (N : Int)) = true := by simp; omega
          clear hwin hk6 hown5 hS5 hS hb5 hE hqq hxb hA15 htk15 hby
          go_wp2_with fail
          refine (HC2.out _).mono ?_
          rintro e w' ⟨rfl, rfl⟩
          obtain ⟨w6, hw6⟩ : ∃ z, w5.setCell ⟨g15, q, none⟩ (.int .u8 Z) = z := ⟨_, rfl⟩
          rw [hw6] at hYo hS6
          obtain ⟨_, _, ey, _, _, hry⟩ := hYo.open_n N (by rw [List.length_set]; exact hN)
          injection ey with eya eyb eyc
          subst eya; subst eyc
          have hInR : InRow w6 (some ⟨g15, 0, none⟩) N c15 (E.set q Z) := ⟨hry, by omega, hcm15, fun h => by cases h⟩
          clear hYo hry
          have HE1 := Lib.hid (fencs_any _ Al ml cl L w6 hS6.fl (by omega) hlc)
          go_wp2_with fail
          try rw [hw6]
          refine HE1.out.mono ?_
          rintro e w7 ⟨rfl, hb7⟩
          have hS7 := hS6.below hb7
          have hIn7 : InRow w7 (some ⟨g15, 0, none⟩) N c15 (E.set q Z) := ⟨(hInR.1.below hb7).more hb7.size, hInR.2⟩
          clear HE1 hb7 hS6 hInR
          have HE2 := Lib.hid (fencs_any _ (some ⟨b2, o2, none⟩) 4 c2 (L2.take 4) w7 hS7.fr (by omega) (by omega))
          go_wp2_with fail
          refine HE2.out.mono ?_
          rintro e w8 ⟨rfl, hb8⟩
          have hS8 := hS7.below hb8
          have hIn8 : InRow w8 (some ⟨g15, 0, none⟩) N c15 (E.set q Z) := ⟨(hIn7.1.below hb8).more hb8.size, hIn7.2⟩
          clear HE2 hb8 hS7 hIn7
          have HE3 := Lib.hid (fdecs_any (some ⟨g15, 0, none⟩) N c15 (E.set q Z) w8 hIn8 (by omega))
          go_wp2_with fail
          refine HE3.out.mono ?_
          rintro e w9 ⟨rfl, hb9⟩
          have hS9 := hS8.below hb9
          clear HE3 hb9 hS8 hIn8
          have hD9 := hS9.d3
          go_wp2_with fail
          refine (cut_any A3 n3 c3 80 w9 hD9.lc hD9.cm (by decide) (fun h e => by have h1 : n3 ≤ c3 := hD9.lc; have h2 : c3 = 0 := hD9.nil e; omega)).mono ?_
          rintro e w' ⟨rfl, rfl⟩
          have hcut := hD9.cutTo_ 80
          have hm80 : min n3 80 ≤ 80 := Nat.min_le_right _ _
          obtain ⟨rn, hrn⟩ : ∃ x, min n3 80 = x := ⟨_, rfl⟩
          rw [hrn] at hcut hm80 ⊢
          clear hrn
          go_wp2_with fail
          refine (fdecs_any A3 rn c3 _ w9 ⟨hcut.rd.1, hcut.lc, hcut.cm, hcut.nil⟩ (by omega)).mono ?_
          rintro e w10 ⟨rfl, hb10⟩
          have hS10 := hS9.below hb10
          clear hD9 hcut hb10 hS9
          go_wp2_with fail
          refine (KN.out _).mono ?_
          rintro e w11 ⟨rfl, hb11⟩
          have hS11 := hS10.below hb11
          go_wp2_with fail
          go_ret
          exact ⟨rfl, hS11.bl⟩
    · have HRQ := HRW
      have hd4 : decide ((4 : Int) < (n2 : Int)) = false := by simp; omega
      have HS0 : Hid (FtS w v2.heap.size Al ml L A2 n2 L2 A3 n3 c3 bs3 v2) := Lib.hid ⟨HFL.out, HRQ.out, HD3.out, HB2.out, Nat.le_refl _, hvs⟩
      clear HRQ HD3 HRW
      go_wp2_with fail
      go_loopw [15] (fun i wr => ∃ k : Nat, k ≤ ml ∧ k ≤ mm ∧ i = .int .i64 k ∧ Hid (Below v2.heap.size v2 wr)) (fun i _ => ml - (intOf i).toNat)
      case atStart => exact ⟨0, Nat.zero_le _, Nat.zero_le _, rfl, Lib.hid (Below.refl _ _)⟩
      case round =>
        obtain ⟨k, hk, hkm, rfl, hbr⟩ := hrel
        by_cases hlt : k < mm
        · have hkl : k < ml := by omega
          have hkmm : k < mm := by omega
          have hf1 := HFL.out.below hbr.out
          have hf2 := HFM.out.below hbr.out
          obtain ⟨bl, ol, rfl, hbl, hPl, hcl⟩ := hf1.2.1 (by omega)
          obtain ⟨bm, om, rfl, hbm, hPm, hcm⟩ := hf2.2.1 (by omega)
          obtain ⟨x, hx⟩ : ∃ x, L[k]? = some x := ⟨_, List.getElem?_eq_getElem (by rw [HLL.out]; exact hkl)⟩
          obtain ⟨y, hy⟩ : ∃ y, M[k]? = some y := ⟨_, List.getElem?_eq_getElem (by rw [HFM.out.1]; exact hkmm)⟩
          have hra := hcl k x hx
          have hrb := hcm k y hy
          have hfx : Fits wr (fun _ => True) x.m x.d x.r x.ds x.rs := (hf1.2.2 x (List.mem_of_getElem? hx)).mono (fun _ _ _ => trivial)
          have hfy : Fits wr (fun _ => True) y.m y.d y.r y.ds y.rs := (hf2.2.2 y (List.mem_of_getElem? hy)).mono (fun _ _ _ => trivial)
          have hs1 : ∀ W, Below wr.heap.size wr W → Calls Try.prog 9 #[frV x.m x.d x.r, frV y.m y.d y.r] W (FrPost (.bool (sameB x.m y.m x.ds y.ds x.rs y.rs)) W) := fun W hW => fsame2_any _ _ _ _ _ _ _ _ _ _ _ W (hfx.below hW) (hfy.below hW)
          have hs2 : ∀ W, Below wr.heap.size wr W → Calls Try.prog 10 #[frV x.m x.d x.r, frV y.m y.d y.r] W (FrPost (.bool (sameB x.m y.m x.ds y.ds x.rs y.rs)) W) := fun W hW => rsame_any _ _ _ _ _ _ _ _ _ _ _ W (hfx.below hW) (hfy.below hW)
          obtain ⟨f1, hf1'⟩ : ∃ z, frL x.m x.d x.r = z := ⟨_, rfl⟩
          obtain ⟨f2, hf2'⟩ : ∃ z, frL y.m y.d y.r = z := ⟨_, rfl⟩
          have hl1 : f1.length = 19 := by rw [← hf1']; rfl
          have hl2 : f2.length = 19 := by rw [← hf2']; rfl
          have hv1 : frV x.m x.d x.r = .agg f1.toArray := by rw [← hf1']; rfl
          have hv2 : frV y.m y.d y.r = .agg f2.toArray := by rw [← hf2']; rfl
          rw [hf1'] at hra
          rw [hf2'] at hrb
          rw [hv1, hv2] at hs1 hs2
          obtain ⟨sb, hsb⟩ : ∃ z, sameB x.m y.m x.ds y.ds x.rs y.rs = z := ⟨_, rfl⟩
          rw [hsb] at hs1 hs2
          have HL1 := Lib.hid hl1
          have HL2 := Lib.hid hl2
          have HS1 := Lib.hid hs1
          have HS2 := Lib.hid hs2
          have HR1 := Lib.hid (fun W (hW : Below wr.heap.size wr W) => rangeAt_kept hra (Kept.of_below hW (fun _ => False)) hbl (fun h => h))
          have HR2 := Lib.hid (fun W (hW : Below wr.heap.size wr W) => rangeAt_kept hrb (Kept.of_below hW (fun _ => False)) hbm (fun h => h))
          have hsbb : (sb != sb) = false := by simp
          clear hf1 hf2 hx hy hra hrb hfx hfy hs1 hs2 hf1' hf2' hl1 hl2 hv1 hv2 hsb hcl hcm hPl hPm
          go_wp2_with fail
          have q0 : Below wr.heap.size wr wr.drew := belowN (Below.refl _ _) 1
          refine wp_region_held_drew (S := (fun W => Below wr.heap.size wr W)) (by kernel_rfl) (q0) (fun hHeld => ?_)
          refine tkp 0 (some 38) (v := ?_) rfl (Or.inl ⟨by rfl, ?_⟩) (by assumption) ?_
          rotate_left
          · intro w hSw; go_simp; first | done | (with_reducible rfl)
          simp only [Act.put, List.setIfInBounds_toArray, List.set_cons_zero, List.set_cons_succ]
          refine tkp 1 (some 39) (v := ?_) rfl (Or.inl ⟨by rfl, ?_⟩) (by assumption) ?_
          rotate_left
          · intro w hSw; go_simp; first | done | (with_reducible rfl)
          simp only [Act.put, List.setIfInBounds_toArray, List.set_cons_zero, List.set_cons_succ]
          refine tkp 2 (some 40) (v := ?_) rfl (Or.inl ⟨by rfl, ?_⟩) (by assumption) ?_
          rotate_left
          · intro w hSw; go_simp; first | done | (with_reducible rfl)
          simp only [Act.put, List.setIfInBounds_toArray, List.set_cons_zero, List.set_cons_succ]
          refine take_dst (i := 3) (dst := some 41) rfl rfl (by kernel_rfl) (by kernel_rfl) (by kernel_rfl) (fun _ _ _ h => h) (v := ?_) ?_ (by assumption) ?_
          rotate_left
          · refine yl_any 31 (.tmp 40) ?_ bl (ol + k * 19) ?_ f1 _ ?_ Try.underlying31 rfl ?_ ?_
            · rfl
            · rfl
            · intro w hSw; exact HR1.out _ hSw
            · rw [HL1.out]; exact fr_info
            · rfl
          simp only [Act.put, List.setIfInBounds_toArray, List.set_cons_zero, List.set_cons_succ]
          refine tkp 4 (some 42) (v := ?_) rfl (Or.inl ⟨by rfl, ?_⟩) (by assumption) ?_
          rotate_left
          · intro w hSw; go_simp; first | done | (with_reducible rfl)
          simp only [Act.put, List.setIfInBounds_toArray, List.set_cons_zero, List.set_cons_succ]
          refine tkp 5 (some 43) (v := ?_) rfl (Or.inl ⟨by rfl, ?_⟩) (by assumption) ?_
          rotate_left
          · intro w hSw; go_simp; first | done | (with_reducible rfl)
          simp only [Act.put, List.setIfInBounds_toArray, List.set_cons_zero, List.set_cons_succ]
          refine tkp 6 (some 44) (v := ?_) rfl (Or.inl ⟨by rfl, ?_⟩) (by assumption) ?_
          rotate_left
          · intro w hSw; go_simp; first | done | (with_reducible rfl)
          simp only [Act.put, List.setIfInBounds_toArray, List.set_cons_zero, List.set_cons_succ]
          refine take_dst (i := 7) (dst := some 45) rfl rfl (by kernel_rfl) (by kernel_rfl) (by kernel_rfl) (fun _ _ _ h => h) (v := ?_) ?_ (by assumption) ?_
          rotate_left
          · refine yl_any 31 (.tmp 44) ?_ bm (om + k * 19) ?_ f2 _ ?_ Try.underlying31 rfl ?_ ?_
            · rfl
            · rfl
            · intro w hSw; exact HR2.out _ hSw
            · rw [HL2.out]; exact fr_info
            · rfl
          simp only [Act.put, List.setIfInBounds_toArray, List.set_cons_zero, List.set_cons_succ]
          refine tkp 9 (some 47) (v := ?_) rfl (Or.inl ⟨by rfl, ?_⟩) (by assumption) ?_
          rotate_left
          · intro w hSw; go_simp; first | done | (with_reducible rfl)
          simp only [Act.put, List.setIfInBounds_toArray, List.set_cons_zero, List.set_cons_succ]
          refine tkp 10 (some 48) (v := ?_) rfl (Or.inl ⟨by rfl, ?_⟩) (by assumption) ?_
          rotate_left
          · intro w hSw; go_simp; first | done | (with_reducible rfl)
          simp only [Act.put, List.setIfInBounds_toArray, List.set_cons_zero, List.set_cons_succ]
          refine tkp 11 (some 49) (v := ?_) rfl (Or.inl ⟨by rfl, ?_⟩) (by assumption) ?_
          rotate_left
          · intro w hSw; go_simp; first | done | (with_reducible rfl)
          simp only [Act.put, List.setIfInBounds_toArray, List.set_cons_zero, List.set_cons_succ]
          refine take_dst (i := 12) (dst := some 50) rfl rfl (by kernel_rfl) (by kernel_rfl) (by kernel_rfl) (fun _ _ _ h => h) (v := ?_) ?_ (by assumption) ?_
          rotate_left
          · refine yl_any 31 (.tmp 49) ?_ bl (ol + k * 19) ?_ f1 _ ?_ Try.underlying31 rfl ?_ ?_
            · rfl
            · rfl
            · intro w hSw; exact HR1.out _ hSw
            · rw [HL1.out]; exact fr_info
            · rfl
          simp only [Act.put, List.setIfInBounds_toArray, List.set_cons_zero, List.set_cons_succ]
          refine tkp 13 (some 51) (v := ?_) rfl (Or.inl ⟨by rfl, ?_⟩) (by assumption) ?_
          rotate_left
          · intro w hSw; go_simp; first | done | (with_reducible rfl)
          simp only [Act.put, List.setIfInBounds_toArray, List.set_cons_zero, List.set_cons_succ]
          refine tkp 14 (some 52) (v := ?_) rfl (Or.inl ⟨by rfl, ?_⟩) (by assumption) ?_
          rotate_left
          · intro w hSw; go_simp; first | done | (with_reducible rfl)
          simp only [Act.put, List.setIfInBounds_toArray, List.set_cons_zero, List.set_cons_succ]
          refine tkp 15 (some 53) (v := ?_) rfl (Or.inl ⟨by rfl, ?_⟩) (by assumption) ?_
          rotate_left
          · intro w hSw; go_simp; first | done | (with_reducible rfl)
          simp only [Act.put, List.setIfInBounds_toArray, List.set_cons_zero, List.set_cons_succ]
          refine take_dst (i := 16) (dst := some 54) rfl rfl (by kernel_rfl) (by kernel_rfl) (by kernel_rfl) (fun _ _ _ h => h) (v := ?_) ?_ (by assumption) ?_
          rotate_left
          · refine yl_any 31 (.tmp 53) ?_ bm (om + k * 19) ?_ f2 _ ?_ Try.underlying31 rfl ?_ ?_
            · rfl
            · rfl
            · intro w hSw; exact HR2.out _ hSw
            · rw [HL2.out]; exact fr_info
            · rfl
          simp only [Act.put, List.setIfInBounds_toArray, List.set_cons_zero, List.set_cons_succ]
          refine wpAnyH_ready (rs := [8]) (by kernel_rfl) (by simp) ?_
          refine AllReadyH.cons rfl (fun K hK => ?_) AllReadyH.nil
          go_simp
          go_wp2_with ((go_at_call 9; refine (HS1.out _ q0).mono ?_; rintro e w5 ⟨rfl, hb5⟩; have q1 := q0.trans (hb5.mono q0.size)))
          refine hK.out _ _ (q1) (fun hHeld => ?_)
          clear hK K
          refine wpAnyH_ready (rs := [17]) (by kernel_rfl) (by simp) ?_
          refine AllReadyH.cons rfl (fun K hK => ?_) AllReadyH.nil
          go_simp
          go_wp2_with ((go_at_call 10; refine (HS2.out _ q1).mono ?_; rintro e w6 ⟨rfl, hb6⟩; have q2 := q1.trans (hb6.mono q1.size)))
          refine hK.out _ _ (q2) (fun hHeld => ?_)
          clear hK K
          refine tkp 18 (some 56) (v := ?_) rfl (Or.inl ⟨by rfl, ?_⟩) (by assumption) ?_
          rotate_left
          · intro w hSw; go_simp; first | done | (with_reducible rfl)
          simp only [Act.put, List.setIfInBounds_toArray, List.set_cons_zero, List.set_cons_succ]
          refine wpAnyH_done (by kernel_rfl) ?_ _
          have hbq : Hid (Below v2.heap.size v2 _) := Lib.hid (hbr.out.trans (q2.mono hbr.out.size))
          go_wp2_with fail
          go_roundw
          case rel => exact ⟨k + 1, by omega, by omega, by go_num, hbq⟩
          case measure => simp [intOf] <;> omega
        · obtain rfl : k = mm := by omega
          have hkl : k < ml := by omega
          have hS := HS0.out.below hbr.out
          clear hbr HS0
          have HEN := Lib.hid (rencode_any _ Al ml cl L wr hS.fl (by omega) hlc HLR.out)
          go_wp2_with fail
          refine HEN.out.mono ?_
          clear HEN
          rintro e w5 ⟨v5, rfl, hown5, hb5⟩
          have hS5 := hS.below hb5
          have hEp := encS_pos L (by rw [HLL.out]; exact hz) HLR.out
          have hEb := encS_len L HLR.out
          rw [HLL.out] at hEb
          obtain ⟨E, hE⟩ : ∃ z, encS L = z := ⟨_, rfl⟩
          rw [hE] at hown5 hEp hEb
          obtain ⟨N, hN⟩ : ∃ z, E.length = z := ⟨_, rfl⟩
          rw [hN] at hEp hEb
          obtain ⟨g15, c15, l15, rfl, hA15, hl15, htk15, hbg15, hnc15, hcm15⟩ := hown5.place (by rw [hN]; exact hEp)
          rw [hN] at hnc15 ⊢
          have hc15 := hcm15
          unfold maxLen at hc15
          have hby := hown5.byt
          have hwin := HWB.out ((N : Int) - 1) (by omega)
          obtain ⟨qq, hqq⟩ : ∃ z, withinS aat 0 ((N : Int) - 1) = z := ⟨_, rfl⟩
          have HC2 := Lib.hid (fun W' => HCW.out ((N : Int) - 1) (by omega) (by omega) W')
          rw [hqq] at HC2 hwin
          obtain ⟨q, rfl⟩ := Int.eq_ofNat_of_zero_le (show 0 ≤ qq by omega)
          have hq : q < N := by omega
          obtain ⟨xq, hxq⟩ : ∃ z, E[q]? = some z := ⟨_, List.getElem?_eq_getElem (by rw [hN]; exact hq)⟩
          have hxb := hby xq (List.mem_of_getElem? hxq)
          obtain ⟨z0, z1⟩ := b_xor xq turn hxb.1 hxb.2 bt.1 bt.2
          obtain ⟨Z, hZ⟩ : ∃ z, bits BinOp.xor IntKind.u8 xq turn = z := ⟨_, rfl⟩
          rw [hZ] at z0 z1
          have y0 := place_cell hA15 htk15 q xq hxq
          have fy := hA15.frozen q
          have hwrap : IntKind.i64.wrap ((N : Int) - 1) = (N : Int) - 1 := IntWalk.i64_in _ (by omega)
          have hYo := place_set hA15 hl15 htk15 hby hbg15 (by rw [hN]; exact hnc15) hcm15 q Z ⟨z0, z1⟩
          have hk6 : Kept (· = g15) w5 (w5.setCell ⟨g15, q, none⟩ (.int .u8 Z)) := (Kept.refl _ _).setAt _ _
          have hS6 := hS5.set g15 hk6 (by have := hS5.wB; have h7 := hS.bs; omega)
          have hNpos : decide ((0 : Int) < (N : Int)) = true := by simp; omega
          clear hwin hk6 hown5 hS5 hS hb5 hE hqq hxb hA15 htk15 hby
          go_wp2_with fail
          refine (HC2.out _).mono ?_
          rintro e w' ⟨rfl, rfl⟩
          obtain ⟨w6, hw6⟩ : ∃ z, w5.setCell ⟨g15, q, none⟩ (.int .u8 Z) = z := ⟨_, rfl⟩
          rw [hw6] at hYo hS6
          obtain ⟨_, _, ey, _, _, hry⟩ := hYo.open_n N (by rw [List.length_set]; exact hN)
          injection ey with eya eyb eyc
          subst eya; subst eyc
          have hInR : InRow w6 (some ⟨g15, 0, none⟩) N c15 (E.set q Z) := ⟨hry, by omega, hcm15, fun h => by cases h⟩
          clear hYo hry
          have HE1 := Lib.hid (fencs_any _ Al ml cl L w6 hS6.fl (by omega) hlc)
          go_wp2_with fail
          try rw [hw6]
          refine HE1.out.mono ?_
          rintro e w7 ⟨rfl, hb7⟩
          have hS7 := hS6.below hb7
          have hIn7 : InRow w7 (some ⟨g15, 0, none⟩) N c15 (E.set q Z) := ⟨(hInR.1.below hb7).more hb7.size, hInR.2⟩
          clear HE1 hb7 hS6 hInR
          have HE2 := Lib.hid (fencs_any _ A2 n2 c2 L2 w7 hS7.fr (by omega) wn2)
          go_wp2_with fail
          refine HE2.out.mono ?_
          rintro e w8 ⟨rfl, hb8⟩
          have hS8 := hS7.below hb8
          have hIn8 : InRow w8 (some ⟨g15, 0, none⟩) N c15 (E.set q Z) := ⟨(hIn7.1.below hb8).more hb8.size, hIn7.2⟩
          clear HE2 hb8 hS7 hIn7
          have HE3 := Lib.hid (fdecs_any (some ⟨g15, 0, none⟩) N c15 (E.set q Z) w8 hIn8 (by omega))
          go_wp2_with fail
          refine HE3.out.mono ?_
          rintro e w9 ⟨rfl, hb9⟩
          have hS9 := hS8.below hb9
          clear HE3 hb9 hS8 hIn8
          have hD9 := hS9.d3
          go_wp2_with fail
          refine (cut_any A3 n3 c3 80 w9 hD9.lc hD9.cm (by decide) (fun h e => by have h1 : n3 ≤ c3 := hD9.lc; have h2 : c3 = 0 := hD9.nil e; omega)).mono ?_
          rintro e w' ⟨rfl, rfl⟩
          have hcut := hD9.cutTo_ 80
          have hm80 : min n3 80 ≤ 80 := Nat.min_le_right _ _
          obtain ⟨rn, hrn⟩ : ∃ x, min n3 80 = x := ⟨_, rfl⟩
          rw [hrn] at hcut hm80 ⊢
          clear hrn
          go_wp2_with fail
          refine (fdecs_any A3 rn c3 _ w9 ⟨hcut.rd.1, hcut.lc, hcut.cm, hcut.nil⟩ (by omega)).mono ?_
          rintro e w10 ⟨rfl, hb10⟩
          have hS10 := hS9.below hb10
          clear hD9 hcut hb10 hS9
          go_wp2_with fail
          refine (KN.out _).mono ?_
          rintro e w11 ⟨rfl, hb11⟩
          have hS11 := hS10.below hb11
          go_wp2_with fail
          go_ret
          exact ⟨rfl, hS11.bl⟩
  · by_cases h4 : 4 < n2
    · obtain ⟨b2, o2, e2, _⟩ := HRW.out.2.1 (by omega)
      subst e2
      have HRQ := Lib.hid (HRW.out.take 4 (by omega))
      have hd4 : decide ((4 : Int) < (n2 : Int)) = true := by simp; omega
      have hc4 : ((c2 : Int) < 4) = False := by simp; omega
      have HS0 : Hid (FtS w v2.heap.size Al ml L (some ⟨b2, o2, none⟩) 4 (L2.take 4) A3 n3 c3 bs3 v2) := Lib.hid ⟨HFL.out, HRQ.out, HD3.out, HB2.out, Nat.le_refl _, hvs⟩
      clear HRQ HD3 HRW
      go_wp2_with fail
      go_loopw [15] (fun i wr => ∃ k : Nat, k ≤ ml ∧ k ≤ mm ∧ i = .int .i64 k ∧ Hid (Below v2.heap.size v2 wr)) (fun i _ => ml - (intOf i).toNat)
      case atStart => exact ⟨0, Nat.zero_le _, Nat.zero_le _, rfl, Lib.hid (Below.refl _ _)⟩
      case round =>
        obtain ⟨k, hk, hkm, rfl, hbr⟩ := hrel
        by_cases hlt : k < ml
        · have hkl : k < ml := by omega
          have hkmm : k < mm := by omega
          have hf1 := HFL.out.below hbr.out
          have hf2 := HFM.out.below hbr.out
          obtain ⟨bl, ol, rfl, hbl, hPl, hcl⟩ := hf1.2.1 (by omega)
          obtain ⟨bm, om, rfl, hbm, hPm, hcm⟩ := hf2.2.1 (by omega)
          obtain ⟨x, hx⟩ : ∃ x, L[k]? = some x := ⟨_, List.getElem?_eq_getElem (by rw [HLL.out]; exact hkl)⟩
          obtain ⟨y, hy⟩ : ∃ y, M[k]? = some y := ⟨_, List.getElem?_eq_getElem (by rw [HFM.out.1]; exact hkmm)⟩
          have hra := hcl k x hx
          have hrb := hcm k y hy
          have hfx : Fits wr (fun _ => True) x.m x.d x.r x.ds x.rs := (hf1.2.2 x (List.mem_of_getElem? hx)).mono (fun _ _ _ => trivial)
          have hfy : Fits wr (fun _ => True) y.m y.d y.r y.ds y.rs := (hf2.2.2 y (List.mem_of_getElem? hy)).mono (fun _ _ _ => trivial)
          have hs1 : ∀ W, Below wr.heap.size wr W → Calls Try.prog 9 #[frV x.m x.d x.r, frV y.m y.d y.r] W (FrPost (.bool (sameB x.m y.m x.ds y.ds x.rs y.rs)) W) := fun W hW => fsame2_any _ _ _ _ _ _ _ _ _ _ _ W (hfx.below hW) (hfy.below hW)
          have hs2 : ∀ W, Below wr.heap.size wr W → Calls Try.prog 10 #[frV x.m x.d x.r, frV y.m y.d y.r] W (FrPost (.bool (sameB x.m y.m x.ds y.ds x.rs y.rs)) W) := fun W hW => rsame_any _ _ _ _ _ _ _ _ _ _ _ W (hfx.below hW) (hfy.below hW)
          obtain ⟨f1, hf1'⟩ : ∃ z, frL x.m x.d x.r = z := ⟨_, rfl⟩
          obtain ⟨f2, hf2'⟩ : ∃ z, frL y.m y.d y.r = z := ⟨_, rfl⟩
          have hl1 : f1.length = 19 := by rw [← hf1']; rfl
          have hl2 : f2.length = 19 := by rw [← hf2']; rfl
          have hv1 : frV x.m x.d x.r = .agg f1.toArray := by rw [← hf1']; rfl
          have hv2 : frV y.m y.d y.r = .agg f2.toArray := by rw [← hf2']; rfl
          rw [hf1'] at hra
          rw [hf2'] at hrb
          rw [hv1, hv2] at hs1 hs2
          obtain ⟨sb, hsb⟩ : ∃ z, sameB x.m y.m x.ds y.ds x.rs y.rs = z := ⟨_, rfl⟩
          rw [hsb] at hs1 hs2
          have HL1 := Lib.hid hl1
          have HL2 := Lib.hid hl2
          have HS1 := Lib.hid hs1
          have HS2 := Lib.hid hs2
          have HR1 := Lib.hid (fun W (hW : Below wr.heap.size wr W) => rangeAt_kept hra (Kept.of_below hW (fun _ => False)) hbl (fun h => h))
          have HR2 := Lib.hid (fun W (hW : Below wr.heap.size wr W) => rangeAt_kept hrb (Kept.of_below hW (fun _ => False)) hbm (fun h => h))
          have hsbb : (sb != sb) = false := by simp
          clear hf1 hf2 hx hy hra hrb hfx hfy hs1 hs2 hf1' hf2' hl1 hl2 hv1 hv2 hsb hcl hcm hPl hPm
          go_wp2_with fail
          have q0 : Below wr.heap.size wr wr.drew := belowN (Below.refl _ _) 1
          refine wp_region_held_drew (S := (fun W => Below wr.heap.size wr W)) (by kernel_rfl) (q0) (fun hHeld => ?_)
          refine tkp 0 (some 38) (v := ?_) rfl (Or.inl ⟨by rfl, ?_⟩) (by assumption) ?_
          rotate_left
          · intro w hSw; go_simp; first | done | (with_reducible rfl)
          simp only [Act.put, List.setIfInBounds_toArray, List.set_cons_zero, List.set_cons_succ]
          refine tkp 1 (some 39) (v := ?_) rfl (Or.inl ⟨by rfl, ?_⟩) (by assumption) ?_
          rotate_left
          · intro w hSw; go_simp; first | done | (with_reducible rfl)
          simp only [Act.put, List.setIfInBounds_toArray, List.set_cons_zero, List.set_cons_succ]
          refine tkp 2 (some 40) (v := ?_) rfl (Or.inl ⟨by rfl, ?_⟩) (by assumption) ?_
          rotate_left
          · intro w hSw; go_simp; first | done | (with_reducible rfl)
          simp only [Act.put, List.setIfInBounds_toArray, List.set_cons_zero, List.set_cons_succ]
          refine take_dst (i := 3) (dst := some 41) rfl rfl (by kernel_rfl) (by kernel_rfl) (by kernel_rfl) (fun _ _ _ h => h) (v := ?_) ?_ (by assumption) ?_
          rotate_left
          · refine yl_any 31 (.tmp 40) ?_ bl (ol + k * 19) ?_ f1 _ ?_ Try.underlying31 rfl ?_ ?_
            · rfl
            · rfl
            · intro w hSw; exact HR1.out _ hSw
            · rw [HL1.out]; exact fr_info
            · rfl
          simp only [Act.put, List.setIfInBounds_toArray, List.set_cons_zero, List.set_cons_succ]
          refine tkp 4 (some 42) (v := ?_) rfl (Or.inl ⟨by rfl, ?_⟩) (by assumption) ?_
          rotate_left
          · intro w hSw; go_simp; first | done | (with_reducible rfl)
          simp only [Act.put, List.setIfInBounds_toArray, List.set_cons_zero, List.set_cons_succ]
          refine tkp 5 (some 43) (v := ?_) rfl (Or.inl ⟨by rfl, ?_⟩) (by assumption) ?_
          rotate_left
          · intro w hSw; go_simp; first | done | (with_reducible rfl)
          simp only [Act.put, List.setIfInBounds_toArray, List.set_cons_zero, List.set_cons_succ]
          refine tkp 6 (some 44) (v := ?_) rfl (Or.inl ⟨by rfl, ?_⟩) (by assumption) ?_
          rotate_left
          · intro w hSw; go_simp; first | done | (with_reducible rfl)
          simp only [Act.put, List.setIfInBounds_toArray, List.set_cons_zero, List.set_cons_succ]
          refine take_dst (i := 7) (dst := some 45) rfl rfl (by kernel_rfl) (by kernel_rfl) (by kernel_rfl) (fun _ _ _ h => h) (v := ?_) ?_ (by assumption) ?_
          rotate_left
          · refine yl_any 31 (.tmp 44) ?_ bm (om + k * 19) ?_ f2 _ ?_ Try.underlying31 rfl ?_ ?_
            · rfl
            · rfl
            · intro w hSw; exact HR2.out _ hSw
            · rw [HL2.out]; exact fr_info
            · rfl
          simp only [Act.put, List.setIfInBounds_toArray, List.set_cons_zero, List.set_cons_succ]
          refine tkp 9 (some 47) (v := ?_) rfl (Or.inl ⟨by rfl, ?_⟩) (by assumption) ?_
          rotate_left
          · intro w hSw; go_simp; first | done | (with_reducible rfl)
          simp only [Act.put, List.setIfInBounds_toArray, List.set_cons_zero, List.set_cons_succ]
          refine tkp 10 (some 48) (v := ?_) rfl (Or.inl ⟨by rfl, ?_⟩) (by assumption) ?_
          rotate_left
          · intro w hSw; go_simp; first | done | (with_reducible rfl)
          simp only [Act.put, List.setIfInBounds_toArray, List.set_cons_zero, List.set_cons_succ]
          refine tkp 11 (some 49) (v := ?_) rfl (Or.inl ⟨by rfl, ?_⟩) (by assumption) ?_
          rotate_left
          · intro w hSw; go_simp; first | done | (with_reducible rfl)
          simp only [Act.put, List.setIfInBounds_toArray, List.set_cons_zero, List.set_cons_succ]
          refine take_dst (i := 12) (dst := some 50) rfl rfl (by kernel_rfl) (by kernel_rfl) (by kernel_rfl) (fun _ _ _ h => h) (v := ?_) ?_ (by assumption) ?_
          rotate_left
          · refine yl_any 31 (.tmp 49) ?_ bl (ol + k * 19) ?_ f1 _ ?_ Try.underlying31 rfl ?_ ?_
            · rfl
            · rfl
            · intro w hSw; exact HR1.out _ hSw
            · rw [HL1.out]; exact fr_info
            · rfl
          simp only [Act.put, List.setIfInBounds_toArray, List.set_cons_zero, List.set_cons_succ]
          refine tkp 13 (some 51) (v := ?_) rfl (Or.inl ⟨by rfl, ?_⟩) (by assumption) ?_
          rotate_left
          · intro w hSw; go_simp; first | done | (with_reducible rfl)
          simp only [Act.put, List.setIfInBounds_toArray, List.set_cons_zero, List.set_cons_succ]
          refine tkp 14 (some 52) (v := ?_) rfl (Or.inl ⟨by rfl, ?_⟩) (by assumption) ?_
          rotate_left
          · intro w hSw; go_simp; first | done | (with_reducible rfl)
          simp only [Act.put, List.setIfInBounds_toArray, List.set_cons_zero, List.set_cons_succ]
          refine tkp 15 (some 53) (v := ?_) rfl (Or.inl ⟨by rfl, ?_⟩) (by assumption) ?_
          rotate_left
          · intro w hSw; go_simp; first | done | (with_reducible rfl)
          simp only [Act.put, List.setIfInBounds_toArray, List.set_cons_zero, List.set_cons_succ]
          refine take_dst (i := 16) (dst := some 54) rfl rfl (by kernel_rfl) (by kernel_rfl) (by kernel_rfl) (fun _ _ _ h => h) (v := ?_) ?_ (by assumption) ?_
          rotate_left
          · refine yl_any 31 (.tmp 53) ?_ bm (om + k * 19) ?_ f2 _ ?_ Try.underlying31 rfl ?_ ?_
            · rfl
            · rfl
            · intro w hSw; exact HR2.out _ hSw
            · rw [HL2.out]; exact fr_info
            · rfl
          simp only [Act.put, List.setIfInBounds_toArray, List.set_cons_zero, List.set_cons_succ]
          refine wpAnyH_ready (rs := [8]) (by kernel_rfl) (by simp) ?_
          refine AllReadyH.cons rfl (fun K hK => ?_) AllReadyH.nil
          go_simp
          go_wp2_with ((go_at_call 9; refine (HS1.out _ q0).mono ?_; rintro e w5 ⟨rfl, hb5⟩; have q1 := q0.trans (hb5.mono q0.size)))
          refine hK.out _ _ (q1) (fun hHeld => ?_)
          clear hK K
          refine wpAnyH_ready (rs := [17]) (by kernel_rfl) (by simp) ?_
          refine AllReadyH.cons rfl (fun K hK => ?_) AllReadyH.nil
          go_simp
          go_wp2_with ((go_at_call 10; refine (HS2.out _ q1).mono ?_; rintro e w6 ⟨rfl, hb6⟩; have q2 := q1.trans (hb6.mono q1.size)))
          refine hK.out _ _ (q2) (fun hHeld => ?_)
          clear hK K
          refine tkp 18 (some 56) (v := ?_) rfl (Or.inl ⟨by rfl, ?_⟩) (by assumption) ?_
          rotate_left
          · intro w hSw; go_simp; first | done | (with_reducible rfl)
          simp only [Act.put, List.setIfInBounds_toArray, List.set_cons_zero, List.set_cons_succ]
          refine wpAnyH_done (by kernel_rfl) ?_ _
          have hbq : Hid (Below v2.heap.size v2 _) := Lib.hid (hbr.out.trans (q2.mono hbr.out.size))
          go_wp2_with fail
          go_roundw
          case rel => exact ⟨k + 1, by omega, by omega, by go_num, hbq⟩
          case measure => simp [intOf] <;> omega
        · obtain rfl : k = ml := by omega
          have hS := HS0.out.below hbr.out
          clear hbr HS0
          have HEN := Lib.hid (rencode_any _ Al k cl L wr hS.fl (by omega) hlc HLR.out)
          go_wp2_with fail
          refine HEN.out.mono ?_
          clear HEN
          rintro e w5 ⟨v5, rfl, hown5, hb5⟩
          have hS5 := hS.below hb5
          have hEp := encS_pos L (by rw [HLL.out]; exact hz) HLR.out
          have hEb := encS_len L HLR.out
          rw [HLL.out] at hEb
          obtain ⟨E, hE⟩ : ∃ z, encS L = z := ⟨_, rfl⟩
          rw [hE] at hown5 hEp hEb
          obtain ⟨N, hN⟩ : ∃ z, E.length = z := ⟨_, rfl⟩
          rw [hN] at hEp hEb
          obtain ⟨g15, c15, l15, rfl, hA15, hl15, htk15, hbg15, hnc15, hcm15⟩ := hown5.place (by rw [hN]; exact hEp)
          rw [hN] at hnc15 ⊢
          have hc15 := hcm15
          unfold maxLen at hc15
          have hby := hown5.byt
          have hwin := HWB.out ((N : Int) - 1) (by omega)
          obtain ⟨qq, hqq⟩ : ∃ z, withinS aat 0 ((N : Int) - 1) = z := ⟨_, rfl⟩
          have HC2 := Lib.hid (fun W' => HCW.out ((N : Int) - 1) (by omega) (by omega) W')
          rw [hqq] at HC2 hwin
          obtain ⟨q, rfl⟩ := Int.eq_ofNat_of_zero_le (show 0 ≤ qq by omega)
          have hq : q < N := by omega
          obtain ⟨xq, hxq⟩ : ∃ z, E[q]? = some z := ⟨_, List.getElem?_eq_getElem (by rw [hN]; exact hq)⟩
          have hxb := hby xq (List.mem_of_getElem? hxq)
          obtain ⟨z0, z1⟩ := b_xor xq turn hxb.1 hxb.2 bt.1 bt.2
          obtain ⟨Z, hZ⟩ : ∃ z, bits BinOp.xor IntKind.u8 xq turn = z := ⟨_, rfl⟩
          rw [hZ] at z0 z1
          have y0 := place_cell hA15 htk15 q xq hxq
          have fy := hA15.frozen q
          have hwrap : IntKind.i64.wrap ((N : Int) - 1) = (N : Int) - 1 := IntWalk.i64_in _ (by omega)
          have hYo := place_set hA15 hl15 htk15 hby hbg15 (by rw [hN]; exact hnc15) hcm15 q Z ⟨z0, z1⟩
          have hk6 : Kept (· = g15) w5 (w5.setCell ⟨g15, q, none⟩ (.int .u8 Z)) := (Kept.refl _ _).setAt _ _
          have hS6 := hS5.set g15 hk6 (by have := hS5.wB; have h7 := hS.bs; omega)
          have hNpos : decide ((0 : Int) < (N : Int)) = true := by simp; omega
          clear hwin hk6 hown5 hS5 hS hb5 hE hqq hxb hA15 htk15 hby
          go_wp2_with fail
          refine (HC2.out _).mono ?_
          rintro e w' ⟨rfl, rfl⟩
          obtain ⟨w6, hw6⟩ : ∃ z, w5.setCell ⟨g15, q, none⟩ (.int .u8 Z) = z := ⟨_, rfl⟩
          rw [hw6] at hYo hS6
          obtain ⟨_, _, ey, _, _, hry⟩ := hYo.open_n N (by rw [List.length_set]; exact hN)
          injection ey with eya eyb eyc
          subst eya; subst eyc
          have hInR : InRow w6 (some ⟨g15, 0, none⟩) N c15 (E.set q Z) := ⟨hry, by omega, hcm15, fun h => by cases h⟩
          clear hYo hry
          have HE1 := Lib.hid (fencs_any _ Al k cl L w6 hS6.fl (by omega) hlc)
          go_wp2_with fail
          try rw [hw6]
          refine HE1.out.mono ?_
          rintro e w7 ⟨rfl, hb7⟩
          have hS7 := hS6.below hb7
          have hIn7 : InRow w7 (some ⟨g15, 0, none⟩) N c15 (E.set q Z) := ⟨(hInR.1.below hb7).more hb7.size, hInR.2⟩
          clear HE1 hb7 hS6 hInR
          have HE2 := Lib.hid (fencs_any _ (some ⟨b2, o2, none⟩) 4 c2 (L2.take 4) w7 hS7.fr (by omega) (by omega))
          go_wp2_with fail
          refine HE2.out.mono ?_
          rintro e w8 ⟨rfl, hb8⟩
          have hS8 := hS7.below hb8
          have hIn8 : InRow w8 (some ⟨g15, 0, none⟩) N c15 (E.set q Z) := ⟨(hIn7.1.below hb8).more hb8.size, hIn7.2⟩
          clear HE2 hb8 hS7 hIn7
          have HE3 := Lib.hid (fdecs_any (some ⟨g15, 0, none⟩) N c15 (E.set q Z) w8 hIn8 (by omega))
          go_wp2_with fail
          refine HE3.out.mono ?_
          rintro e w9 ⟨rfl, hb9⟩
          have hS9 := hS8.below hb9
          clear HE3 hb9 hS8 hIn8
          have hD9 := hS9.d3
          go_wp2_with fail
          refine (cut_any A3 n3 c3 80 w9 hD9.lc hD9.cm (by decide) (fun h e => by have h1 : n3 ≤ c3 := hD9.lc; have h2 : c3 = 0 := hD9.nil e; omega)).mono ?_
          rintro e w' ⟨rfl, rfl⟩
          have hcut := hD9.cutTo_ 80
          have hm80 : min n3 80 ≤ 80 := Nat.min_le_right _ _
          obtain ⟨rn, hrn⟩ : ∃ x, min n3 80 = x := ⟨_, rfl⟩
          rw [hrn] at hcut hm80 ⊢
          clear hrn
          go_wp2_with fail
          refine (fdecs_any A3 rn c3 _ w9 ⟨hcut.rd.1, hcut.lc, hcut.cm, hcut.nil⟩ (by omega)).mono ?_
          rintro e w10 ⟨rfl, hb10⟩
          have hS10 := hS9.below hb10
          clear hD9 hcut hb10 hS9
          go_wp2_with fail
          refine (KN.out _).mono ?_
          rintro e w11 ⟨rfl, hb11⟩
          have hS11 := hS10.below hb11
          go_wp2_with fail
          go_ret
          exact ⟨rfl, hS11.bl⟩
    · have HRQ := HRW
      have hd4 : decide ((4 : Int) < (n2 : Int)) = false := by simp; omega
      have HS0 : Hid (FtS w v2.heap.size Al ml L A2 n2 L2 A3 n3 c3 bs3 v2) := Lib.hid ⟨HFL.out, HRQ.out, HD3.out, HB2.out, Nat.le_refl _, hvs⟩
      clear HRQ HD3 HRW
      go_wp2_with fail
      go_loopw [15] (fun i wr => ∃ k : Nat, k ≤ ml ∧ k ≤ mm ∧ i = .int .i64 k ∧ Hid (Below v2.heap.size v2 wr)) (fun i _ => ml - (intOf i).toNat)
      case atStart => exact ⟨0, Nat.zero_le _, Nat.zero_le _, rfl, Lib.hid (Below.refl _ _)⟩
      case round =>
        obtain ⟨k, hk, hkm, rfl, hbr⟩ := hrel
        by_cases hlt : k < ml
        · have hkl : k < ml := by omega
          have hkmm : k < mm := by omega
          have hf1 := HFL.out.below hbr.out
          have hf2 := HFM.out.below hbr.out
          obtain ⟨bl, ol, rfl, hbl, hPl, hcl⟩ := hf1.2.1 (by omega)
          obtain ⟨bm, om, rfl, hbm, hPm, hcm⟩ := hf2.2.1 (by omega)
          obtain ⟨x, hx⟩ : ∃ x, L[k]? = some x := ⟨_, List.getElem?_eq_getElem (by rw [HLL.out]; exact hkl)⟩
          obtain ⟨y, hy⟩ : ∃ y, M[k]? = some y := ⟨_, List.getElem?_eq_getElem (by rw [HFM.out.1]; exact hkmm)⟩
          have hra := hcl k x hx
          have hrb := hcm k y hy
          have hfx : Fits wr (fun _ => True) x.m x.d x.r x.ds x.rs := (hf1.2.2 x (List.mem_of_getElem? hx)).mono (fun _ _ _ => trivial)
          have hfy : Fits wr (fun _ => True) y.m y.d y.r y.ds y.rs := (hf2.2.2 y (List.mem_of_getElem? hy)).mono (fun _ _ _ => trivial)
          have hs1 : ∀ W, Below wr.heap.size wr W → Calls Try.prog 9 #[frV x.m x.d x.r, frV y.m y.d y.r] W (FrPost (.bool (sameB x.m y.m x.ds y.ds x.rs y.rs)) W) := fun W hW => fsame2_any _ _ _ _ _ _ _ _ _ _ _ W (hfx.below hW) (hfy.below hW)
          have hs2 : ∀ W, Below wr.heap.size wr W → Calls Try.prog 10 #[frV x.m x.d x.r, frV y.m y.d y.r] W (FrPost (.bool (sameB x.m y.m x.ds y.ds x.rs y.rs)) W) := fun W hW => rsame_any _ _ _ _ _ _ _ _ _ _ _ W (hfx.below hW) (hfy.below hW)
          obtain ⟨f1, hf1'⟩ : ∃ z, frL x.m x.d x.r = z := ⟨_, rfl⟩
          obtain ⟨f2, hf2'⟩ : ∃ z, frL y.m y.d y.r = z := ⟨_, rfl⟩
          have hl1 : f1.length = 19 := by rw [← hf1']; rfl
          have hl2 : f2.length = 19 := by rw [← hf2']; rfl
          have hv1 : frV x.m x.d x.r = .agg f1.toArray := by rw [← hf1']; rfl
          have hv2 : frV y.m y.d y.r = .agg f2.toArray := by rw [← hf2']; rfl
          rw [hf1'] at hra
          rw [hf2'] at hrb
          rw [hv1, hv2] at hs1 hs2
          obtain ⟨sb, hsb⟩ : ∃ z, sameB x.m y.m x.ds y.ds x.rs y.rs = z := ⟨_, rfl⟩
          rw [hsb] at hs1 hs2
          have HL1 := Lib.hid hl1
          have HL2 := Lib.hid hl2
          have HS1 := Lib.hid hs1
          have HS2 := Lib.hid hs2
          have HR1 := Lib.hid (fun W (hW : Below wr.heap.size wr W) => rangeAt_kept hra (Kept.of_below hW (fun _ => False)) hbl (fun h => h))
          have HR2 := Lib.hid (fun W (hW : Below wr.heap.size wr W) => rangeAt_kept hrb (Kept.of_below hW (fun _ => False)) hbm (fun h => h))
          have hsbb : (sb != sb) = false := by simp
          clear hf1 hf2 hx hy hra hrb hfx hfy hs1 hs2 hf1' hf2' hl1 hl2 hv1 hv2 hsb hcl hcm hPl hPm
          go_wp2_with fail
          have q0 : Below wr.heap.size wr wr.drew := belowN (Below.refl _ _) 1
          refine wp_region_held_drew (S := (fun W => Below wr.heap.size wr W)) (by kernel_rfl) (q0) (fun hHeld => ?_)
          refine tkp 0 (some 38) (v := ?_) rfl (Or.inl ⟨by rfl, ?_⟩) (by assumption) ?_
          rotate_left
          · intro w hSw; go_simp; first | done | (with_reducible rfl)
          simp only [Act.put, List.setIfInBounds_toArray, List.set_cons_zero, List.set_cons_succ]
          refine tkp 1 (some 39) (v := ?_) rfl (Or.inl ⟨by rfl, ?_⟩) (by assumption) ?_
          rotate_left
          · intro w hSw; go_simp; first | done | (with_reducible rfl)
          simp only [Act.put, List.setIfInBounds_toArray, List.set_cons_zero, List.set_cons_succ]
          refine tkp 2 (some 40) (v := ?_) rfl (Or.inl ⟨by rfl, ?_⟩) (by assumption) ?_
          rotate_left
          · intro w hSw; go_simp; first | done | (with_reducible rfl)
          simp only [Act.put, List.setIfInBounds_toArray, List.set_cons_zero, List.set_cons_succ]
          refine take_dst (i := 3) (dst := some 41) rfl rfl (by kernel_rfl) (by kernel_rfl) (by kernel_rfl) (fun _ _ _ h => h) (v := ?_) ?_ (by assumption) ?_
          rotate_left
          · refine yl_any 31 (.tmp 40) ?_ bl (ol + k * 19) ?_ f1 _ ?_ Try.underlying31 rfl ?_ ?_
            · rfl
            · rfl
            · intro w hSw; exact HR1.out _ hSw
            · rw [HL1.out]; exact fr_info
            · rfl
          simp only [Act.put, List.setIfInBounds_toArray, List.set_cons_zero, List.set_cons_succ]
          refine tkp 4 (some 42) (v := ?_) rfl (Or.inl ⟨by rfl, ?_⟩) (by assumption) ?_
          rotate_left
          · intro w hSw; go_simp; first | done | (with_reducible rfl)
          simp only [Act.put, List.setIfInBounds_toArray, List.set_cons_zero, List.set_cons_succ]
          refine tkp 5 (some 43) (v := ?_) rfl (Or.inl ⟨by rfl, ?_⟩) (by assumption) ?_
          rotate_left
          · intro w hSw; go_simp; first | done | (with_reducible rfl)
          simp only [Act.put, List.setIfInBounds_toArray, List.set_cons_zero, List.set_cons_succ]
          refine tkp 6 (some 44) (v := ?_) rfl (Or.inl ⟨by rfl, ?_⟩) (by assumption) ?_
          rotate_left
          · intro w hSw; go_simp; first | done | (with_reducible rfl)
          simp only [Act.put, List.setIfInBounds_toArray, List.set_cons_zero, List.set_cons_succ]
          refine take_dst (i := 7) (dst := some 45) rfl rfl (by kernel_rfl) (by kernel_rfl) (by kernel_rfl) (fun _ _ _ h => h) (v := ?_) ?_ (by assumption) ?_
          rotate_left
          · refine yl_any 31 (.tmp 44) ?_ bm (om + k * 19) ?_ f2 _ ?_ Try.underlying31 rfl ?_ ?_
            · rfl
            · rfl
            · intro w hSw; exact HR2.out _ hSw
            · rw [HL2.out]; exact fr_info
            · rfl
          simp only [Act.put, List.setIfInBounds_toArray, List.set_cons_zero, List.set_cons_succ]
          refine tkp 9 (some 47) (v := ?_) rfl (Or.inl ⟨by rfl, ?_⟩) (by assumption) ?_
          rotate_left
          · intro w hSw; go_simp; first | done | (with_reducible rfl)
          simp only [Act.put, List.setIfInBounds_toArray, List.set_cons_zero, List.set_cons_succ]
          refine tkp 10 (some 48) (v := ?_) rfl (Or.inl ⟨by rfl, ?_⟩) (by assumption) ?_
          rotate_left
          · intro w hSw; go_simp; first | done | (with_reducible rfl)
          simp only [Act.put, List.setIfInBounds_toArray, List.set_cons_zero, List.set_cons_succ]
          refine tkp 11 (some 49) (v := ?_) rfl (Or.inl ⟨by rfl, ?_⟩) (by assumption) ?_
          rotate_left
          · intro w hSw; go_simp; first | done | (with_reducible rfl)
          simp only [Act.put, List.setIfInBounds_toArray, List.set_cons_zero, List.set_cons_succ]
          refine take_dst (i := 12) (dst := some 50) rfl rfl (by kernel_rfl) (by kernel_rfl) (by kernel_rfl) (fun _ _ _ h => h) (v := ?_) ?_ (by assumption) ?_
          rotate_left
          · refine yl_any 31 (.tmp 49) ?_ bl (ol + k * 19) ?_ f1 _ ?_ Try.underlying31 rfl ?_ ?_
            · rfl
            · rfl
            · intro w hSw; exact HR1.out _ hSw
            · rw [HL1.out]; exact fr_info
            · rfl
          simp only [Act.put, List.setIfInBounds_toArray, List.set_cons_zero, List.set_cons_succ]
          refine tkp 13 (some 51) (v := ?_) rfl (Or.inl ⟨by rfl, ?_⟩) (by assumption) ?_
          rotate_left
          · intro w hSw; go_simp; first | done | (with_reducible rfl)
          simp only [Act.put, List.setIfInBounds_toArray, List.set_cons_zero, List.set_cons_succ]
          refine tkp 14 (some 52) (v := ?_) rfl (Or.inl ⟨by rfl, ?_⟩) (by assumption) ?_
          rotate_left
          · intro w hSw; go_simp; first | done | (with_reducible rfl)
          simp only [Act.put, List.setIfInBounds_toArray, List.set_cons_zero, List.set_cons_succ]
          refine tkp 15 (some 53) (v := ?_) rfl (Or.inl ⟨by rfl, ?_⟩) (by assumption) ?_
          rotate_left
          · intro w hSw; go_simp; first | done | (with_reducible rfl)
          simp only [Act.put, List.setIfInBounds_toArray, List.set_cons_zero, List.set_cons_succ]
          refine take_dst (i := 16) (dst := some 54) rfl rfl (by kernel_rfl) (by kernel_rfl) (by kernel_rfl) (fun _ _ _ h => h) (v := ?_) ?_ (by assumption) ?_
          rotate_left
          · refine yl_any 31 (.tmp 53) ?_ bm (om + k * 19) ?_ f2 _ ?_ Try.underlying31 rfl ?_ ?_
            · rfl
            · rfl
            · intro w hSw; exact HR2.out _ hSw
            · rw [HL2.out]; exact fr_info
            · rfl
          simp only [Act.put, List.setIfInBounds_toArray, List.set_cons_zero, List.set_cons_succ]
          refine wpAnyH_ready (rs := [8]) (by kernel_rfl) (by simp) ?_
          refine AllReadyH.cons rfl (fun K hK => ?_) AllReadyH.nil
          go_simp
          go_wp2_with ((go_at_call 9; refine (HS1.out _ q0).mono ?_; rintro e w5 ⟨rfl, hb5⟩; have q1 := q0.trans (hb5.mono q0.size)))
          refine hK.out _ _ (q1) (fun hHeld => ?_)
          clear hK K
          refine wpAnyH_ready (rs := [17]) (by kernel_rfl) (by simp) ?_
          refine AllReadyH.cons rfl (fun K hK => ?_) AllReadyH.nil
          go_simp
          go_wp2_with ((go_at_call 10; refine (HS2.out _ q1).mono ?_; rintro e w6 ⟨rfl, hb6⟩; have q2 := q1.trans (hb6.mono q1.size)))
          refine hK.out _ _ (q2) (fun hHeld => ?_)
          clear hK K
          refine tkp 18 (some 56) (v := ?_) rfl (Or.inl ⟨by rfl, ?_⟩) (by assumption) ?_
          rotate_left
          · intro w hSw; go_simp; first | done | (with_reducible rfl)
          simp only [Act.put, List.setIfInBounds_toArray, List.set_cons_zero, List.set_cons_succ]
          refine wpAnyH_done (by kernel_rfl) ?_ _
          have hbq : Hid (Below v2.heap.size v2 _) := Lib.hid (hbr.out.trans (q2.mono hbr.out.size))
          go_wp2_with fail
          go_roundw
          case rel => exact ⟨k + 1, by omega, by omega, by go_num, hbq⟩
          case measure => simp [intOf] <;> omega
        · obtain rfl : k = ml := by omega
          have hS := HS0.out.below hbr.out
          clear hbr HS0
          have HEN := Lib.hid (rencode_any _ Al k cl L wr hS.fl (by omega) hlc HLR.out)
          go_wp2_with fail
          refine HEN.out.mono ?_
          clear HEN
          rintro e w5 ⟨v5, rfl, hown5, hb5⟩
          have hS5 := hS.below hb5
          have hEp := encS_pos L (by rw [HLL.out]; exact hz) HLR.out
          have hEb := encS_len L HLR.out
          rw [HLL.out] at hEb
          obtain ⟨E, hE⟩ : ∃ z, encS L = z := ⟨_, rfl⟩
          rw [hE] at hown5 hEp hEb
          obtain ⟨N, hN⟩ : ∃ z, E.length = z := ⟨_, rfl⟩
          rw [hN] at hEp hEb
          obtain ⟨g15, c15, l15, rfl, hA15, hl15, htk15, hbg15, hnc15, hcm15⟩ := hown5.place (by rw [hN]; exact hEp)
          rw [hN] at hnc15 ⊢
          have hc15 := hcm15
          unfold maxLen at hc15
          have hby := hown5.byt
          have hwin := HWB.out ((N : Int) - 1) (by omega)
          obtain ⟨qq, hqq⟩ : ∃ z, withinS aat 0 ((N : Int) - 1) = z := ⟨_, rfl⟩
          have HC2 := Lib.hid (fun W' => HCW.out ((N : Int) - 1) (by omega) (by omega) W')
          rw [hqq] at HC2 hwin
          obtain ⟨q, rfl⟩ := Int.eq_ofNat_of_zero_le (show 0 ≤ qq by omega)
          have hq : q < N := by omega
          obtain ⟨xq, hxq⟩ : ∃ z, E[q]? = some z := ⟨_, List.getElem?_eq_getElem (by rw [hN]; exact hq)⟩
          have hxb := hby xq (List.mem_of_getElem? hxq)
          obtain ⟨z0, z1⟩ := b_xor xq turn hxb.1 hxb.2 bt.1 bt.2
          obtain ⟨Z, hZ⟩ : ∃ z, bits BinOp.xor IntKind.u8 xq turn = z := ⟨_, rfl⟩
          rw [hZ] at z0 z1
          have y0 := place_cell hA15 htk15 q xq hxq
          have fy := hA15.frozen q
          have hwrap : IntKind.i64.wrap ((N : Int) - 1) = (N : Int) - 1 := IntWalk.i64_in _ (by omega)
          have hYo := place_set hA15 hl15 htk15 hby hbg15 (by rw [hN]; exact hnc15) hcm15 q Z ⟨z0, z1⟩
          have hk6 : Kept (· = g15) w5 (w5.setCell ⟨g15, q, none⟩ (.int .u8 Z)) := (Kept.refl _ _).setAt _ _
          have hS6 := hS5.set g15 hk6 (by have := hS5.wB; have h7 := hS.bs; omega)
          have hNpos : decide ((0 : Int) < (N : Int)) = true := by simp; omega
          clear hwin hk6 hown5 hS5 hS hb5 hE hqq hxb hA15 htk15 hby
          go_wp2_with fail
          refine (HC2.out _).mono ?_
          rintro e w' ⟨rfl, rfl⟩
          obtain ⟨w6, hw6⟩ : ∃ z, w5.setCell ⟨g15, q, none⟩ (.int .u8 Z) = z := ⟨_, rfl⟩
          rw [hw6] at hYo hS6
          obtain ⟨_, _, ey, _, _, hry⟩ := hYo.open_n N (by rw [List.length_set]; exact hN)
          injection ey with eya eyb eyc
          subst eya; subst eyc
          have hInR : InRow w6 (some ⟨g15, 0, none⟩) N c15 (E.set q Z) := ⟨hry, by omega, hcm15, fun h => by cases h⟩
          clear hYo hry
          have HE1 := Lib.hid (fencs_any _ Al k cl L w6 hS6.fl (by omega) hlc)
          go_wp2_with fail
          try rw [hw6]
          refine HE1.out.mono ?_
          rintro e w7 ⟨rfl, hb7⟩
          have hS7 := hS6.below hb7
          have hIn7 : InRow w7 (some ⟨g15, 0, none⟩) N c15 (E.set q Z) := ⟨(hInR.1.below hb7).more hb7.size, hInR.2⟩
          clear HE1 hb7 hS6 hInR
          have HE2 := Lib.hid (fencs_any _ A2 n2 c2 L2 w7 hS7.fr (by omega) wn2)
          go_wp2_with fail
          refine HE2.out.mono ?_
          rintro e w8 ⟨rfl, hb8⟩
          have hS8 := hS7.below hb8
          have hIn8 : InRow w8 (some ⟨g15, 0, none⟩) N c15 (E.set q Z) := ⟨(hIn7.1.below hb8).more hb8.size, hIn7.2⟩
          clear HE2 hb8 hS7 hIn7
          have HE3 := Lib.hid (fdecs_any (some ⟨g15, 0, none⟩) N c15 (E.set q Z) w8 hIn8 (by omega))
          go_wp2_with fail
          refine HE3.out.mono ?_
          rintro e w9 ⟨rfl, hb9⟩
          have hS9 := hS8.below hb9
          clear HE3 hb9 hS8 hIn8
          have hD9 := hS9.d3
          go_wp2_with fail
          refine (cut_any A3 n3 c3 80 w9 hD9.lc hD9.cm (by decide) (fun h e => by have h1 : n3 ≤ c3 := hD9.lc; have h2 : c3 = 0 := hD9.nil e; omega)).mono ?_
          rintro e w' ⟨rfl, rfl⟩
          have hcut := hD9.cutTo_ 80
          have hm80 : min n3 80 ≤ 80 := Nat.min_le_right _ _
          obtain ⟨rn, hrn⟩ : ∃ x, min n3 80 = x := ⟨_, rfl⟩
          rw [hrn] at hcut hm80 ⊢
          clear hrn
          go_wp2_with fail
          refine (fdecs_any A3 rn c3 _ w9 ⟨hcut.rd.1, hcut.lc, hcut.cm, hcut.nil⟩ (by omega)).mono ?_
          rintro e w10 ⟨rfl, hb10⟩
          have hS10 := hS9.below hb10
          clear hD9 hcut hb10 hS9
          go_wp2_with fail
          refine (KN.out _).mono ?_
          rintro e w11 ⟨rfl, hb11⟩
          have hS11 := hS10.below hb11
          go_wp2_with fail
          go_ret
          exact ⟨rfl, hS11.bl⟩
theorem ftells_law (A0 : Option Addr) (n0 c0 : Nat) (X0 : List FX) (A1 : Option Addr) (n1 c1 : Nat) (X1 : List FX) (A2 : Option Addr) (n2 c2 : Nat) (L2 : List FR) (A3 : Option Addr) (n3 c3 : Nat) (bs3 : List Int) (aat turn : Int) (w : World)
    (w0 : FxP w A0 n0 X0) (wn0 : n0 ≤ c0) (wc0 : c0 ≤ maxLen) (w1 : FxP w A1 n1 X1) (wn1 : n1 ≤ c1) (wc1 : c1 ≤ maxLen) (w2 : FrsP w (fun _ => True) A2 n2 L2) (wn2 : n2 ≤ c2) (wc2 : c2 ≤ maxLen) (w3 : InRow w A3 n3 c3 bs3)
    (ht : (Lit.int .i64 aat).wf = true) (htu : (Lit.int .u8 turn).wf = true) :
    Calls Try.prog 4 #[.slice A0 n0 c0, .slice A1 n1 c1, .slice A2 n2 c2, .slice A3 n3 c3, .int .i64 aat, .int .u8 turn] w fun e w'' => e = .returned (.bool true) ∧ Below w.heap.size w w'' :=
  ftells_walk A0 n0 c0 X0 A1 n1 c1 X1 A2 n2 c2 L2 A3 n3 c3 bs3 aat turn w w0 wn0 wc0 w1 wn1 wc1 w2 wn2 wc2 w3 (bounds_i64 ht) (by have := bounds_u8 htu; omega)
end Go.Proofs.Ytafegpedaidmmaa
