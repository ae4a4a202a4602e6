/-
  InbufOrder: its walk.
-/
import Derived.Test.YthgbnknahnaemaaIr
import Derived.Test.YthgbnknahnaemaaIs
import Derived.Test.YthgbnknahnaemaaInRow
import Derived.Test.YthgbnknahnaemaaTk
namespace Go.Proofs.Ythgbnknahnaemaa
set_option linter.unusedVariables false
set_option linter.unusedSimpArgs false
open Go.RowKit
/-- Nothing but what is in la came. -/
structure Or (la : List Int) (S : BS) : Prop where
  hi : S.hi ≤ la.length
  fi : S.en = true → S.fi = la.length
  g : ∀ n x, S.g n = some x → la[n]? = some x
theorem or0 (la : List Int) : Or la bs0 := ⟨Nat.zero_le _, fun h => (by cases h), fun n x h => (by cases h)⟩
theorem Or.out {la : List Int} {S : BS} {k n : Nat} (h : Or la S) (hk : IsR S.g S.rd k) (hn : n ≤ k) : outB S.g S.rd n = (la.drop S.rd).take n := by
  apply List.ext_getElem?
  intro i
  by_cases hi : i < n
  · obtain ⟨x, hx⟩ := Option.isSome_iff_exists.1 (hk.1 i (by omega))
    have := h.g _ x hx
    rw [List.getElem?_take_of_lt hi, List.getElem?_drop, this]
    unfold outB
    rw [List.getElem?_map, List.getElem?_range hi]
    simp [hx]
  · rw [List.getElem?_eq_none (by rw [outB_len]; omega), List.getElem?_eq_none (by simp; omega)]
theorem Or.take {la : List Int} {S : BS} (h : Or la S) (n : Nat) : Or la (takeS S n) := ⟨h.hi, h.fi, h.g⟩
theorem Or.addE {la : List Int} {S : BS} (h : Or la S) {off len : Nat} {fin : Bool} (hl : off + len ≤ la.length) (h2 : la.length ≤ 200) (hf : fin = true → off + len = la.length) : addE S off len fin = 0 := by
  have h1 := h.hi
  have h3 := h.fi
  unfold Go.Proofs.Ythgbnknahnaemaa.addE
  rw [if_neg (by omega), if_neg, if_neg (by omega)]
  intro hc
  cases hen : S.en <;> cases hfi : fin <;> rw [hen, hfi] at hc <;> simp at hc
  · have := hf hfi; omega
  · have := h3 hen; omega
  · have e1 := h3 hen
    have e2 := hf hfi
    omega
theorem Or.addS {la bs : List Int} {S : BS} (h : Or la S) {off : Nat} {fin : Bool} (hl : off + bs.length ≤ la.length) (hf : fin = true → off + bs.length = la.length) (hb : bs = (la.drop off).take bs.length) : Or la (addS S off bs fin) := by
  refine ⟨?_, ?_, ?_⟩
  · have := h.hi
    show max S.hi (off + bs.length) ≤ _
    omega
  · intro he
    have he' : (S.en || fin) = true := he
    show (if fin = true then off + bs.length else S.fi) = _
    split
    · rename_i hfi
      exact hf hfi
    · rename_i hfi
      have : fin = false := by simpa using hfi
      rw [this, Bool.or_false] at he'
      exact h.fi he'
  · intro n x hx
    have hx' : addG S.g off bs n = some x := hx
    cases hg : S.g n with
    | some y =>
      rw [addG_some (by rw [hg]; rfl)] at hx'
      exact h.g n x hx'
    | none =>
      rw [addG_none hg] at hx'
      by_cases hc : off ≤ n ∧ n < off + bs.length
      · unfold pieceB at hx'
        rw [if_pos hc.1, hb, List.getElem?_take_of_lt (by omega), List.getElem?_drop] at hx'
        rw [← hx']
        congr 1
        omega
      · rw [pieceB_out (by omega)] at hx'
        cases hx'
/-- All of it, its end told. -/
theorem Or.full {la : List Int} {S : BS} (h : Or la S) (hok : S.ok) : IsR (Go.Proofs.Ythgbnknahnaemaa.addS S 0 la true).g S.rd (la.length - S.rd) := by
  have h1 := h.hi
  have h2 := hok.rh
  refine ⟨fun i hi => ?_, ?_⟩
  · show (addG S.g 0 la (S.rd + i)).isSome = true
    rw [addG_isSome]
    simp
    right
    omega
  · show addG S.g 0 la (S.rd + (la.length - S.rd)) = none
    rw [addG_none (hok.no _ (by omega)), pieceB_out (by omega)]
/-- The buffer, and what was taken so far. -/
structure Gt (w wr : World) (p : Nat) (la : List Int) (vg : Value) (S : BS) : Prop where
  ob : Ob w wr p S (fun b => vg.ownBlock = some b)
  own : Own wr w.heap.size 5 vg (la.take S.rd)
  ord : Or la S
section
variable {w wr W : World} {p : Nat} {la : List Int} {vg : Value} {S : BS}
theorem Gt.bl (h : Gt w wr p la vg S) : Below w.heap.size w wr := h.ob.bl
theorem Gt.rd_le (h : Gt w wr p la vg S) : S.rd ≤ la.length := by have := h.ord.hi; have := h.ob.ok.rh; omega
theorem Gt.len (h : Gt w wr p la vg S) : (la.take S.rd).length = S.rd := by have := h.rd_le; simp; omega
theorem Gt.below (h : Gt w wr p la vg S) (k : Below wr.heap.size wr W) : Gt w W p la vg S := ⟨h.ob.below k, h.own.below k (Nat.le_refl _), h.ord⟩
theorem Gt.drewN (h : Gt w wr p la vg S) (n : Nat) : Gt w (wr.drewN n) p la vg S := h.below ⟨rfl, rfl, rfl, Nat.le_refl _, fun _ _ => rfl⟩
/-- Behind a call that leaves what was taken alone. -/
theorem Gt.step {S' : BS} (h : Gt w wr p la vg S) (ho : Ob w W p S' (fun b => vg.ownBlock = some b)) (hF : ∀ b, vg.ownBlock = some b → W.heap[b]? = wr.heap[b]?) (hr : S'.rd = S.rd) (or' : Or la S') : Gt w W p la vg S' :=
  ⟨ho, by rw [hr]; exact h.own.keep hF, or'⟩
/-- What Take gave is put behind what was taken. -/
theorem Gt.app {w2 w3 : World} {v3 : Value} {k n : Nat} (h : Gt w wr p la vg S) (hk : IsR S.g S.rd k) (hn : n ≤ k) (ho : Ob w w2 p (takeS S n) (fun b => vg.ownBlock = some b)) (hF : ∀ b, vg.ownBlock = some b → w2.heap[b]? = wr.heap[b]?)
    (h3 : Ow w3 w.heap.size 5 v3 ((la.take S.rd).map (Value.int .u8) ++ (outB S.g S.rd n).map (Value.int .u8))) (hg : w2.grownBy w3 vg.ownBlock) (hv : v3.ownBlock = vg.ownBlock ∨ v3.ownBlock = some w2.heap.size) (hb : Byt la) : Gt w w3 p la v3 (takeS S n) := by
  have e : la.take (S.rd + n) = la.take S.rd ++ outB S.g S.rd n := by rw [h.ord.out hk hn, List.take_add]
  have kg := grown_kept hg
  obtain ⟨O, hO, hOF⟩ := ho.bf
  have own2 := h.own.keep hF
  have lt2 := own2.block_lt
  have fr : ∀ b, v3.ownBlock = some b → ¬ O b ∧ b < w3.heap.size := fun b hb' => by
    have hl3 := (ow_lt h3 b hb').2
    rcases hv with e' | e'
    · exact ⟨(hOF b (by rw [← e']; exact hb')).1, hl3⟩
    · rw [e'] at hb'
      have : w2.heap.size = b := Option.some.inj hb'
      exact ⟨fun e => by have := (hO.lt b e).2; omega, hl3⟩
  refine ⟨⟨ho.ok, ⟨O, hO.kept kg fun b hb' e => (hOF b e).1 hb', fr⟩, kg.below ho.bl ho.bl.size fun j hj => (lt2 j hj).1⟩, ow_own ?_ (hb.take _), h.ord.take n⟩
  show Ow w3 w.heap.size 5 v3 ((la.take (S.rd + n)).map (Value.int .u8))
  rw [e, List.map_append]
  exact h3
end
/-- What Take leaves, in the law's words. -/
theorem gt_take {w wr : World} {p : Nat} {la : List Int} {vg : Value} {S : BS} (h : Gt w wr p la vg S) (most : Int) (hm : -9223372036854775808 ≤ most ∧ most < 9223372036854775808) (k : Nat) (hk : IsR S.g S.rd k) :
    Calls Try.prog 13 #[.pointer (some ⟨p, 0, none⟩), .int .i64 most] wr (OTPost w wr p S (min most.toNat k) (fun b => vg.ownBlock = some b)) := ob_take h.ob most hm k hk
/-- What Add leaves. -/
theorem gt_add {w wr : World} {p : Nat} {la bs : List Int} {vg : Value} {S : BS} (h : Gt w wr p la vg S) (off : Nat) (A : Option Addr) (n c : Nat) (fin : Bool) (hr : Rd w w.heap.size A n bs) (hnc : n ≤ c) (hl : off + n ≤ la.length) (h2 : la.length ≤ 200) (hf : fin = true → off + n = la.length) (hb : bs = (la.drop off).take n) :
    Calls Try.prog 9 #[.pointer (some ⟨p, 0, none⟩), .int .u64 off, .slice A n c, .bool fin] wr fun e w' => e = .returned (.int .i64 0) ∧ Gt w w' p la vg (addS S off bs fin) := by
  have hbl := hr.1
  have e0 := h.ord.addE (off := off) (len := n) (fin := fin) hl h2 hf
  refine (ob_add_in h.ob off A n c bs fin hr hnc (by omega) (by omega)).mono fun e w' ⟨h1, ho, hF, hs⟩ => ?_
  have er : addR S off bs fin = addS S off bs fin := by unfold addR; rw [if_pos (by rw [hbl]; exact e0)]
  rw [er] at ho
  rw [e0] at h1
  exact ⟨h1, h.step ho hF rfl (h.ord.addS (by omega) (by rw [hbl]; exact hf) (by rw [hbl]; exact hb))⟩
set_option maxHeartbeats 40000000 in
set_option maxRecDepth 100000 in
theorem iorder_law (A0 : Option Addr) (n0 c0 : Nat) (bs0_ : List Int) (A : Option Addr) (n c : Nat) (L : List AskD) (w : World) (hu0 : InRow w A0 n0 c0 bs0_) (hu : Asks w w.heap.size A n c L) :
    Calls Try.prog 5 #[.slice A0 n0 c0, .slice A n c] w fun e w' => e = .returned (.bool true) ∧ Below w.heap.size w w' := by
  obtain ⟨hr0, hnc0, hcm0, hA0⟩ := hu0
  have HU := Lib.hid hu
  have HUL := Lib.hid hu.1
  have hnc := hu.2.1
  have hcm := hu.2.2.1
  unfold maxLen at hcm
  clear hu
  have HCA := Lib.hid (fun W => (show Calls Try.prog 12 #[.slice A0 n0 c0, .int .i64 200] W _ from icut_any A0 n0 c0 200 W hnc0 hcm0 (by omega) hA0))
  obtain ⟨nw, hnw⟩ : ∃ x, min n0 200 = x := ⟨_, rfl⟩
  rw [hnw] at HCA
  have hnw1 : nw ≤ n0 := by omega
  have hnw2 : nw ≤ 200 := by omega
  have hra := hr0.cutTo hnw1
  obtain ⟨la, hla⟩ : ∃ x, bs0_.take nw = x := ⟨_, rfl⟩
  rw [hla] at hra
  have hnwc : nw ≤ c0 := by omega
  have hc0m : c0 ≤ 9223372036854775807 := by unfold maxLen at hcm0; omega
  have HRA := Lib.hid hra
  have HLA : Hid (la.length = nw) := Lib.hid hra.1
  have HBY := Lib.hid hra.2.1
  have HNIL := Lib.hid hA0
  have HN := Lib.hid (ob_new w)
  have HKN := Lib.hid known14_any
  clear hr0 hnc0 hcm0 hA0 hra hla hnw hnw1
  go_enter Try.func5, Try.ntmps5
  go_wp2_with (first
    | (go_at_call 7; (with_reducible refine HN.out.mono ?_); rintro e w1 ⟨p, rfl, hO1⟩; have K1 := Lib.hid hO1; clear hO1)
    | (go_at_call 12; (with_reducible refine (HCA.out _).mono ?_); rintro e wz ⟨rfl, hwz⟩; (try rw [hwz]); clear hwz))
  have HG0 : Hid (Gt w w1 p la (.slice none 0 0) bs0) := Lib.hid ⟨K1.out.weak (fun b h => by cases h), Own.none_ _ _ _, or0 la⟩
  go_loopg [6, 7] 40 (fun kx s6 s7 wr => ∃ (i : Nat) (S : BS) (Ag : Option Addr) (cg : Nat), s7 = .int .i64 i ∧ i ≤ n ∧ i ≤ 40 ∧ 40 - i ≤ kx ∧ s6 = .slice Ag S.rd cg ∧ Hid (Gt w wr p la (.slice Ag S.rd cg) S))
  case atStart => exact ⟨0, bs0, none, 0, rfl, Nat.zero_le _, by omega, by omega, rfl, HG0⟩
  case round =>
    clear HG0 K1
    obtain ⟨i, S, Ag, cg, rfl, hin, hi40, hkx, rfl, hG⟩ := hrel
    have hok := hG.out.ob.ok
    have hrdl : S.rd ≤ nw := by rw [← HLA.out]; exact hG.out.rd_le
    have HGL : Hid ((la.take S.rd).length = S.rd) := Lib.hid hG.out.len
    obtain ⟨kr, hkr1, hkr⟩ := hok.ready
    have hhi : S.hi ≤ nw := by rw [← HLA.out]; exact hG.out.ord.hi
    have HKR := Lib.hid hkr
    have HOKS := Lib.hid hok
    by_cases hgo : i < n ∧ i < 40
    · obtain ⟨g1, g2⟩ := hgo
      obtain ⟨d, hx⟩ : ∃ d, L[i]? = some d := ⟨_, List.getElem?_eq_getElem (by rw [HUL.out]; exact g1)⟩
      obtain ⟨b, off, rfl, hb, hc⟩ := HU.out.2.2.2.2 (by omega)
      have ha := (hc i d hx).below hG.out.bl hb
      have HAK : Hid (∀ W, Below w.heap.size w W → AskAt W w.heap.size b (off + i * 8) d) := Lib.hid (fun W hW => (hc i d hx).below hW hb)
      have e0 := ha.c0
      have hwf := ha.wf
      have hiz : (i : Int) < (n : Int) := by omega
      have hi6 : (i : Int) < 40 := by omega
      by_cases hk1 : d.k = 1
      · have e3 := ha.c3
        rw [hk1] at e0
        obtain ⟨nn, hnn⟩ : ∃ nn, nn = min d.most.toNat kr := ⟨_, rfl⟩
        have hnk : nn ≤ kr := by omega
        have HT := Lib.hid (gt_take hG.out d.most hwf.most kr hkr)
        rw [← hnn] at HT
        obtain ⟨mo, hmo⟩ : ∃ mo, d.most = mo := ⟨_, rfl⟩
        rw [hmo] at HT e3
        have HGR := Lib.hid (own_ow hG.out.own)
        have hgml : Hid (((la.take S.rd).map (Value.int .u8)).length = S.rd) := Lib.hid (by rw [List.length_map]; exact HGL.out)
        clear hc ha hx hwf hkr hnn hmo HAK
        obtain ⟨fb, hfb⟩ : ∃ fb, (S.en && decide (S.rd + nn = S.fi)) = fb := ⟨_, rfl⟩
        have HFB := Lib.hid hfb
        obtain ⟨rn, hrn⟩ : ∃ rn, rn = S.rd + nn := ⟨_, rfl⟩
        have HRN := Lib.hid hrn
        have hrn2 : rn ≤ nw := by omega
        have hfn : fb = true → rn = nw := fun h => by
          rw [h, Bool.and_eq_true, decide_eq_true_eq] at hfb
          have := hG.out.ord.fi hfb.1
          rw [HLA.out] at this
          omega
        have HFN := Lib.hid hfn
        clear hfb hrn hfn
        have HAPP : Hid (∀ (w2 w3 : World) (v3 : Value), Ob w w2 p (takeS S nn) (fun b => (Value.slice Ag S.rd cg).ownBlock = some b) → (∀ b, (Value.slice Ag S.rd cg).ownBlock = some b → w2.heap[b]? = wr.heap[b]?) → Ow w3 w.heap.size 5 v3 ((la.take S.rd).map (Value.int .u8) ++ (outB S.g S.rd nn).map (Value.int .u8)) → w2.grownBy w3 (Value.slice Ag S.rd cg).ownBlock → (v3.ownBlock = (Value.slice Ag S.rd cg).ownBlock ∨ v3.ownBlock = some w2.heap.size) → Gt w w3 p la v3 (takeS S nn)) := Lib.hid (fun w2 w3 v3 ho hF h3 hg hv => hG.out.app HKR.out hnk ho hF h3 hg hv HBY.out)
        have HOUTL : Hid ((outB S.g S.rd nn).length = nn) := Lib.hid (outB_len _ _ _)
        have HGB := Lib.hid hG.out.bl.size
        clear hG hok
        cases fb
        · go_wp2_with (first
            | (go_at_call 13; (with_reducible refine HT.out.mono ?_); rintro e w2 ⟨v, rfl, ho2, hO2, hF2, hs2⟩; rw [HFB.out]; obtain ⟨A2, c2, rfl, _, _, hr2⟩ := ho2.open_n nn HOUTL.out; have how : Ow w2 w.heap.size 5 (.slice Ag S.rd cg) ((la.take S.rd).map (Value.int .u8)) := ow_keep HGR.out hF2; have hsrc := rd_src hr2; have hb2 : w.heap.size ≤ w2.heap.size := hO2.bl.size; have HO2 := Lib.hid hO2; have HF2 := Lib.hid hF2; clear ho2 hO2 hF2 hr2)
            | (at_builtin; refine wpList_app1 o8 rfl (.tmp 45) (.tmp 46) rfl w.heap.size _ _ rfl how A2 nn c2 rfl ((outB S.g S.rd nn).map (Value.int .u8)) (by rw [List.length_map]; exact HOUTL.out) hsrc (oneCell_u8 _) (by rw [hgml.out]; omega) hb2 ?_; intro v3 w3 hv3 hg3 hn3 _; have hG3 := HAPP.out w2 w3 v3 HO2.out HF2.out hv3 hg3 hn3; obtain ⟨A3, c3, rfl, _, _, hr3⟩ := hG3.own.open_n rn (by rw [HRN.out]; exact hG3.len); have HG3 := Lib.hid hG3; clear hG3 hv3 hg3 hn3 how hsrc hr3))
          have hrz : ¬ (nw : Int) < (rn : Int) := by omega
          have hstr : Hid (∀ j, (convert 22 9 (.slice A3 rn c3)).run Try.prog (w3.drewN j) = .ok (.string (strOfNums (la.take rn))) (w3.drewN j) ∧ (convert 22 9 (.slice A0 rn c0)).run Try.prog (w3.drewN j) = .ok (.string (strOfNums (la.take rn))) (w3.drewN j)) := Lib.hid (fun j => by
              have h3 := HG3.out.drewN j
              obtain ⟨A4, c4, e4, _, _, hr4⟩ := h3.own.open_n rn (by rw [HRN.out]; exact h3.len)
              injection e4 with e41 _ e43
              subst e41; subst e43
              rw [show (takeS S nn).rd = rn from HRN.out.symm] at hr4
              exact ⟨run_text (P := Try.prog) (c := c3) hr4 22 5 9 Try.underlying22 Try.underlying5 Try.underlying9, run_text (P := Try.prog) (c := c0) ((HRA.out.below h3.bl).cutTo hrn2) 22 5 9 Try.underlying22 Try.underlying5 Try.underlying9⟩)
          have t1 := fun j => (hstr.out j).1
          have t2 := fun j => (hstr.out j).2
          have hbb := bb_refl (strOfNums (la.take rn))
          have HNX : Hid (∀ j, Gt w (w3.drewN j) p la (.slice A3 (takeS S nn).rd c3) (takeS S nn)) := Lib.hid (fun j => by rw [show (takeS S nn).rd = rn from HRN.out.symm]; exact HG3.out.drewN j)
          have hrnc : (rn : Int) ≤ (c0 : Int) := by omega
          go_quiet (fail)
          go_wp2_with fail
          go_roundg (40 - (i + 1))
          case measure => omega
          case rel => exact ⟨i + 1, takeS S nn, A3, c3, by simp, by omega, by omega, by omega, by rw [show (takeS S nn).rd = rn from HRN.out.symm], Lib.hid (HNX.out _)⟩
        · have hrw := HFN.out rfl
          subst hrw
          go_wp2_with (first
            | (go_at_call 13; (with_reducible refine HT.out.mono ?_); rintro e w2 ⟨v, rfl, ho2, hO2, hF2, hs2⟩; rw [HFB.out]; obtain ⟨A2, c2, rfl, _, _, hr2⟩ := ho2.open_n nn HOUTL.out; have how : Ow w2 w.heap.size 5 (.slice Ag S.rd cg) ((la.take S.rd).map (Value.int .u8)) := ow_keep HGR.out hF2; have hsrc := rd_src hr2; have hb2 : w.heap.size ≤ w2.heap.size := hO2.bl.size; have HO2 := Lib.hid hO2; have HF2 := Lib.hid hF2; clear ho2 hO2 hF2 hr2)
            | (at_builtin; refine wpList_app1 o8 rfl (.tmp 45) (.tmp 46) rfl w.heap.size _ _ rfl how A2 nn c2 rfl ((outB S.g S.rd nn).map (Value.int .u8)) (by rw [List.length_map]; exact HOUTL.out) hsrc (oneCell_u8 _) (by rw [hgml.out]; omega) hb2 ?_; intro v3 w3 hv3 hg3 hn3 _; have hG3 := HAPP.out w2 w3 v3 HO2.out HF2.out hv3 hg3 hn3; obtain ⟨A3, c3, rfl, _, _, hr3⟩ := hG3.own.open_n rn (by rw [HRN.out]; exact hG3.len); have HG3 := Lib.hid hG3; clear hG3 hv3 hg3 hn3 how hsrc hr3))
          have hrz : ¬ (rn : Int) < (rn : Int) := by omega
          have hstr : Hid (∀ j, (convert 22 9 (.slice A3 rn c3)).run Try.prog (w3.drewN j) = .ok (.string (strOfNums (la.take rn))) (w3.drewN j) ∧ (convert 22 9 (.slice A0 rn c0)).run Try.prog (w3.drewN j) = .ok (.string (strOfNums (la.take rn))) (w3.drewN j)) := Lib.hid (fun j => by
              have h3 := HG3.out.drewN j
              obtain ⟨A4, c4, e4, _, _, hr4⟩ := h3.own.open_n rn (by rw [HRN.out]; exact h3.len)
              injection e4 with e41 _ e43
              subst e41; subst e43
              rw [show (takeS S nn).rd = rn from HRN.out.symm] at hr4
              exact ⟨run_text (P := Try.prog) (c := c3) hr4 22 5 9 Try.underlying22 Try.underlying5 Try.underlying9, run_text (P := Try.prog) (c := c0) ((HRA.out.below h3.bl).cutTo hrn2) 22 5 9 Try.underlying22 Try.underlying5 Try.underlying9⟩)
          have t1 := fun j => (hstr.out j).1
          have t2 := fun j => (hstr.out j).2
          have hbb := bb_refl (strOfNums (la.take rn))
          have HNX : Hid (∀ j, Gt w (w3.drewN j) p la (.slice A3 (takeS S nn).rd c3) (takeS S nn)) := Lib.hid (fun j => by rw [show (takeS S nn).rd = rn from HRN.out.symm]; exact HG3.out.drewN j)
          have hrnc : (rn : Int) ≤ (c0 : Int) := by omega
          go_quiet (fail)
          go_wp2_with fail
          go_roundg (40 - (i + 1))
          case measure => omega
          case rel => exact ⟨i + 1, takeS S nn, A3, c3, by simp, by omega, by omega, by omega, by rw [show (takeS S nn).rd = rn from HRN.out.symm], Lib.hid (HNX.out _)⟩
      · clear hkr
        have hk1z : ¬ d.k = 1 := hk1
        have e1 := ha.c1
        have e2 := ha.c2
        have e4 := ha.c4
        obtain ⟨o1, ho1⟩ : ∃ x, withN d.off nw = x := ⟨_, rfl⟩
        have ho1n : o1 ≤ nw := by rw [← ho1]; exact withN_le _ _
        obtain ⟨r1, hr1⟩ : ∃ r, r = nw - o1 := ⟨_, rfl⟩
        have hr1z : (nw : Int) - (o1 : Int) = (r1 : Int) := by omega
        obtain ⟨sz, hsz⟩ : ∃ x, withN d.size r1 = x := ⟨_, rfl⟩
        have hszn : sz ≤ r1 := by rw [← hsz]; exact withN_le _ _
        obtain ⟨en1, hen1⟩ : ∃ x, x = o1 + sz := ⟨_, rfl⟩
        have henz : (o1 : Int) + (sz : Int) = (en1 : Int) := by omega
        have hen2 : en1 ≤ nw := by omega
        have HW1 := Lib.hid (fun W => iwithin_any d.off nw W hwf.off (by omega))
        have HW2 := Lib.hid (fun W => iwithin_any d.size r1 W hwf.size (by omega))
        rw [ho1] at HW1
        rw [hsz] at HW2
        obtain ⟨dk, doff, dsize, dmost, dfin, draw, dat, dA, dn, dc, dbs⟩ := d
        simp only at e0 e1 e2 e4 HW1 HW2 hk1 hk1z
        have HEN := Lib.hid hen1
        have HR1 := Lib.hid hr1
        have HAK4 : Hid (∀ W, Below w.heap.size w W → W.cell? ⟨b, off + i * 8 + 4, none⟩ = some (.bool dfin)) := Lib.hid (fun W hW => (HAK.out W hW).c4)
        clear hc ha hx hwf hsz hr1 hen1 ho1 HAK hk1
        go_wp2_with (first
          | (go_at_call 14; (with_reducible refine (HW1.out _).mono ?_); rintro e wz ⟨rfl, hwz⟩; (try rw [hwz]); clear hwz)
          | (go_at_call 14; (with_reducible refine (HW2.out _).mono ?_); rintro e wz ⟨rfl, hwz⟩; (try rw [hwz]); clear hwz))
        obtain ⟨UA, hUA⟩ : ∃ UA, (if c0 = o1 then A0 else Option.map (fun x => x.add o1) A0) = UA := ⟨_, rfl⟩
        have hRow : Rd w w.heap.size UA (en1 - o1) ((la.drop o1).take (en1 - o1)) := by
          have h1 := (HRA.out.cutTo hen2).cutFrom (c := c0) (k := o1) (by have := HEN.out; omega) (by omega)
          have e1 : cutA A0 c0 o1 = UA := hUA
          rw [e1, List.drop_take] at h1
          exact h1
        have HROW := Lib.hid hRow
        have HUA := Lib.hid hUA
        clear hRow hUA
        have hoe : (o1 : Int) ≤ (en1 : Int) := by omega
        have hec : (en1 : Int) ≤ (c0 : Int) := by omega
        have hwo : IntKind.u64.wrap (o1 : Int) = (o1 : Int) := by rw [IntKind.wrap_u64]; omega
        have hrnc : (S.rd : Int) ≤ (c0 : Int) := by omega
        have hrz : ¬ (nw : Int) < (S.rd : Int) := by omega
        have hbb := bb_refl (strOfNums (la.take S.rd))
        have HADD : Hid (∀ (F : Bool) W, (F = true → en1 = nw) → Gt w W p la (.slice Ag S.rd cg) S → Calls Try.prog 9 #[.pointer (some ⟨p, 0, none⟩), .int .u64 o1, .slice UA (en1 - o1) (c0 - o1), .bool F] W fun e w' => e = .returned (.int .i64 0) ∧ Gt w w' p la (.slice Ag S.rd cg) (addS S o1 ((la.drop o1).take (en1 - o1)) F)) := Lib.hid (fun F W hF h => gt_add h o1 UA (en1 - o1) (c0 - o1) F HROW.out (by omega) (by rw [HLA.out]; omega) (by rw [HLA.out]; omega) (fun e => by rw [HLA.out]; have := hF e; omega) rfl)
        have HSTR : Hid (∀ (S' : BS) W, S'.rd = S.rd → Gt w W p la (.slice Ag S.rd cg) S' → (convert 22 9 (.slice Ag S.rd cg)).run Try.prog W = .ok (.string (strOfNums (la.take S.rd))) W ∧ (convert 22 9 (.slice A0 S.rd c0)).run Try.prog W = .ok (.string (strOfNums (la.take S.rd))) W) := Lib.hid (fun S' W hr h => by
          have ho := h.own
          rw [hr] at ho
          obtain ⟨A4, c4, e4, _, _, hr4⟩ := ho.open_n S.rd HGL.out
          injection e4 with e41 _ e43
          subst e41; subst e43
          exact ⟨run_text (P := Try.prog) (c := cg) hr4 22 5 9 Try.underlying22 Try.underlying5 Try.underlying9, run_text (P := Try.prog) (c := c0) ((HRA.out.below h.bl).cutTo hrdl) 22 5 9 Try.underlying22 Try.underlying5 Try.underlying9⟩)
        have hGd := hG.out.drewN 1
        have HGD : Hid (Gt w wr.drew p la (.slice Ag S.rd cg) S) := Lib.hid hGd
        clear hGd hG hok
        generalize hYY : wr.drew = Y at HGD
        have hcs : dfin = false ∨ (dfin = true ∧ en1 = nw) ∨ (dfin = true ∧ ¬ en1 = nw) := by
          cases dfin
          · exact .inl rfl
          · by_cases h : en1 = nw
            · exact .inr (.inl ⟨rfl, h⟩)
            · exact .inr (.inr ⟨rfl, h⟩)
        rcases hcs with rfl | ⟨rfl, hen⟩ | ⟨rfl, hen⟩
        · have HA5 := Lib.hid (HADD.out false Y (fun h => by cases h) HGD.out)
          have e4y : Y.cell? ⟨b, off + i * 8 + 4, none⟩ = some (.bool false) := HAK4.out Y HGD.out.bl
          refine wp_region_held_drew (S := (fun W => W.cell? ⟨b, off + i * 8 + 4, none⟩ = some (.bool false))) (by kernel_rfl) (by rw [hYY]; exact e4y) (fun hHeld => ?_)
          rw [hYY]
          refine tkq 0 (some 76) (v := ?_) rfl (Or.inl ⟨by rfl, ?_⟩) (by assumption) ?_
          rotate_left
          · intro w hSw; (try dsimp only at hSw); go_simp; first | done | (with_reducible rfl)
          simp only [Act.put, List.setIfInBounds_toArray, List.set_cons_zero, List.set_cons_succ]
          refine tkq 1 (some 77) (v := ?_) rfl (Or.inl ⟨by rfl, ?_⟩) (by assumption) ?_
          rotate_left
          · intro w hSw; (try dsimp only at hSw); go_simp; first | done | (with_reducible rfl)
          simp only [Act.put, List.setIfInBounds_toArray, List.set_cons_zero, List.set_cons_succ]
          refine tkq 2 (some 78) (v := ?_) rfl (Or.inl ⟨by rfl, ?_⟩) (by assumption) ?_
          rotate_left
          · intro w hSw; (try dsimp only at hSw); go_simp; first | done | (with_reducible rfl)
          simp only [Act.put, List.setIfInBounds_toArray, List.set_cons_zero, List.set_cons_succ]
          refine tkq 3 (some 79) (v := ?_) rfl (Or.inl ⟨by rfl, ?_⟩) (by assumption) ?_
          rotate_left
          · intro w hSw; (try dsimp only at hSw); go_simp; first | done | (with_reducible rfl)
          simp only [Act.put, List.setIfInBounds_toArray, List.set_cons_zero, List.set_cons_succ]
          refine tkq 4 (some 80) (v := ?_) rfl (Or.inl ⟨by rfl, ?_⟩) (by assumption) ?_
          rotate_left
          · intro w hSw; (try dsimp only at hSw); go_simp; first | done | (with_reducible rfl)
          simp only [Act.put, List.setIfInBounds_toArray, List.set_cons_zero, List.set_cons_succ]
          refine tkq 5 (some 81) (v := ?_) rfl (Or.inl ⟨by rfl, ?_⟩) (by assumption) ?_
          rotate_left
          · intro w hSw; (try dsimp only at hSw); go_simp; first | done | (with_reducible rfl)
          simp only [Act.put, List.setIfInBounds_toArray, List.set_cons_zero, List.set_cons_succ]
          refine tkq 6 (some 82) (v := .slice UA (en1 - o1) (c0 - o1)) rfl (Or.inl ⟨by rfl, ?_⟩) (by assumption) ?_
          · intro w hSw; go_simp; (try rw [HUA.out])
          simp only [Act.put, List.setIfInBounds_toArray, List.set_cons_zero, List.set_cons_succ]
          refine tkq 7 (some 83) (v := ?_) rfl (Or.inl ⟨by rfl, ?_⟩) (by assumption) ?_
          rotate_left
          · intro w hSw; (try dsimp only at hSw); go_simp; first | done | (with_reducible rfl)
          simp only [Act.put, List.setIfInBounds_toArray, List.set_cons_zero, List.set_cons_succ]
          refine tkq 8 (some 84) (v := ?_) rfl (Or.inl ⟨by rfl, ?_⟩) (by assumption) ?_
          rotate_left
          · intro w hSw; (try dsimp only at hSw); go_simp; first | done | (with_reducible rfl)
          simp only [Act.put, List.setIfInBounds_toArray, List.set_cons_zero, List.set_cons_succ]
          refine tkq 9 (some 85) (v := ?_) rfl (Or.inl ⟨by rfl, ?_⟩) (by assumption) ?_
          rotate_left
          · intro w hSw; (try dsimp only at hSw); go_simp; first | done | (with_reducible rfl)
          simp only [Act.put, List.setIfInBounds_toArray, List.set_cons_zero, List.set_cons_succ]
          refine tkq 10 (some 86) (v := ?_) rfl (Or.inl ⟨by rfl, ?_⟩) (by assumption) ?_
          rotate_left
          · intro w hSw; (try dsimp only at hSw); go_simp; first | done | (with_reducible rfl)
          simp only [Act.put, List.setIfInBounds_toArray, List.set_cons_zero, List.set_cons_succ]
          refine tkq 11 (some 87) (v := ?_) rfl (Or.inl ⟨by rfl, ?_⟩) (by assumption) ?_
          rotate_left
          · intro w hSw; (try dsimp only at hSw); go_simp; first | done | (with_reducible rfl)
          simp only [Act.put, List.setIfInBounds_toArray, List.set_cons_zero, List.set_cons_succ]
          refine tkq 12 (some 88) (v := ?_) rfl (Or.inl ⟨by rfl, ?_⟩) (by assumption) ?_
          rotate_left
          · intro w hSw; (try dsimp only at hSw); go_simp; first | done | (with_reducible rfl)
          simp only [Act.put, List.setIfInBounds_toArray, List.set_cons_zero, List.set_cons_succ]
          refine tkq 13 (some 89) (v := undef) rfl (Or.inr ⟨by rfl, rfl⟩) (by assumption) ?_
          simp only [Act.put, List.setIfInBounds_toArray, List.set_cons_zero, List.set_cons_succ]
          refine tkq 14 (some 90) (v := undef) rfl (Or.inr ⟨by rfl, rfl⟩) (by assumption) ?_
          simp only [Act.put, List.setIfInBounds_toArray, List.set_cons_zero, List.set_cons_succ]
          refine tkq 15 (some 91) (v := undef) rfl (Or.inr ⟨by rfl, rfl⟩) (by assumption) ?_
          simp only [Act.put, List.setIfInBounds_toArray, List.set_cons_zero, List.set_cons_succ]
          refine tkq 16 (some 92) (v := undef) rfl (Or.inr ⟨by rfl, rfl⟩) (by assumption) ?_
          simp only [Act.put, List.setIfInBounds_toArray, List.set_cons_zero, List.set_cons_succ]
          refine tkq 17 (some 93) (v := ?_) rfl (Or.inl ⟨by rfl, ?_⟩) (by assumption) ?_
          rotate_left
          · intro w hSw; (try dsimp only at hSw); go_simp; first | done | (with_reducible rfl)
          simp only [Act.put, List.setIfInBounds_toArray, List.set_cons_zero, List.set_cons_succ]
          refine wpAnyH_ready (rs := [18]) (by kernel_rfl) (by simp) ?_
          refine AllReadyH.cons rfl (fun K hK => ?_) AllReadyH.nil
          go_simp
          go_wp2_with (go_at_call 9; (with_reducible refine HA5.out.mono ?_); rintro e w5 ⟨rfl, hG5⟩)
          have g5 := HAK4.out w5 hG5.bl
          refine hK.out _ _ (g5) (fun hHeld => ?_)
          clear hK K
          refine tkq 19 (some 95) (v := ?_) rfl (Or.inl ⟨by rfl, ?_⟩) (by assumption) ?_
          rotate_left
          · intro w hSw; (try dsimp only at hSw); go_simp; first | done | (with_reducible rfl)
          simp only [Act.put, List.setIfInBounds_toArray, List.set_cons_zero, List.set_cons_succ]
          refine wpAnyH_done (by kernel_rfl) ?_ _
          have HG5 := Lib.hid hG5
          have t1 := fun j => (HSTR.out (addS S o1 ((la.drop o1).take (en1 - o1)) false) (w5.drewN j) rfl (HG5.out.drewN j)).1
          have t2 := fun j => (HSTR.out (addS S o1 ((la.drop o1).take (en1 - o1)) false) (w5.drewN j) rfl (HG5.out.drewN j)).2
          clear hG5
          go_wp2_with fail
          go_quiet (fail)
          go_wp2_with fail
          go_roundg (40 - (i + 1))
          case measure => omega
          case rel => exact ⟨i + 1, addS S o1 ((la.drop o1).take (en1 - o1)) false, Ag, cg, by simp, by omega, by omega, by omega, rfl, Lib.hid (HG5.out.drewN _)⟩
        · subst hen
          have HA5 := Lib.hid (HADD.out true Y (fun _ => rfl) HGD.out)
          have e4y : Y.cell? ⟨b, off + i * 8 + 4, none⟩ = some (.bool true) := HAK4.out Y HGD.out.bl
          refine wp_region_held_drew (S := (fun W => W.cell? ⟨b, off + i * 8 + 4, none⟩ = some (.bool true))) (by kernel_rfl) (by rw [hYY]; exact e4y) (fun hHeld => ?_)
          rw [hYY]
          refine tkq 0 (some 76) (v := ?_) rfl (Or.inl ⟨by rfl, ?_⟩) (by assumption) ?_
          rotate_left
          · intro w hSw; (try dsimp only at hSw); go_simp; first | done | (with_reducible rfl)
          simp only [Act.put, List.setIfInBounds_toArray, List.set_cons_zero, List.set_cons_succ]
          refine tkq 1 (some 77) (v := ?_) rfl (Or.inl ⟨by rfl, ?_⟩) (by assumption) ?_
          rotate_left
          · intro w hSw; (try dsimp only at hSw); go_simp; first | done | (with_reducible rfl)
          simp only [Act.put, List.setIfInBounds_toArray, List.set_cons_zero, List.set_cons_succ]
          refine tkq 2 (some 78) (v := ?_) rfl (Or.inl ⟨by rfl, ?_⟩) (by assumption) ?_
          rotate_left
          · intro w hSw; (try dsimp only at hSw); go_simp; first | done | (with_reducible rfl)
          simp only [Act.put, List.setIfInBounds_toArray, List.set_cons_zero, List.set_cons_succ]
          refine tkq 3 (some 79) (v := ?_) rfl (Or.inl ⟨by rfl, ?_⟩) (by assumption) ?_
          rotate_left
          · intro w hSw; (try dsimp only at hSw); go_simp; first | done | (with_reducible rfl)
          simp only [Act.put, List.setIfInBounds_toArray, List.set_cons_zero, List.set_cons_succ]
          refine tkq 4 (some 80) (v := ?_) rfl (Or.inl ⟨by rfl, ?_⟩) (by assumption) ?_
          rotate_left
          · intro w hSw; (try dsimp only at hSw); go_simp; first | done | (with_reducible rfl)
          simp only [Act.put, List.setIfInBounds_toArray, List.set_cons_zero, List.set_cons_succ]
          refine tkq 5 (some 81) (v := ?_) rfl (Or.inl ⟨by rfl, ?_⟩) (by assumption) ?_
          rotate_left
          · intro w hSw; (try dsimp only at hSw); go_simp; first | done | (with_reducible rfl)
          simp only [Act.put, List.setIfInBounds_toArray, List.set_cons_zero, List.set_cons_succ]
          refine tkq 6 (some 82) (v := .slice UA (en1 - o1) (c0 - o1)) rfl (Or.inl ⟨by rfl, ?_⟩) (by assumption) ?_
          · intro w hSw; go_simp; (try rw [HUA.out])
          simp only [Act.put, List.setIfInBounds_toArray, List.set_cons_zero, List.set_cons_succ]
          refine tkq 7 (some 83) (v := ?_) rfl (Or.inl ⟨by rfl, ?_⟩) (by assumption) ?_
          rotate_left
          · intro w hSw; (try dsimp only at hSw); go_simp; first | done | (with_reducible rfl)
          simp only [Act.put, List.setIfInBounds_toArray, List.set_cons_zero, List.set_cons_succ]
          refine tkq 8 (some 84) (v := ?_) rfl (Or.inl ⟨by rfl, ?_⟩) (by assumption) ?_
          rotate_left
          · intro w hSw; (try dsimp only at hSw); go_simp; first | done | (with_reducible rfl)
          simp only [Act.put, List.setIfInBounds_toArray, List.set_cons_zero, List.set_cons_succ]
          refine tkq 9 (some 85) (v := ?_) rfl (Or.inl ⟨by rfl, ?_⟩) (by assumption) ?_
          rotate_left
          · intro w hSw; (try dsimp only at hSw); go_simp; first | done | (with_reducible rfl)
          simp only [Act.put, List.setIfInBounds_toArray, List.set_cons_zero, List.set_cons_succ]
          refine tkq 10 (some 86) (v := ?_) rfl (Or.inl ⟨by rfl, ?_⟩) (by assumption) ?_
          rotate_left
          · intro w hSw; (try dsimp only at hSw); go_simp; first | done | (with_reducible rfl)
          simp only [Act.put, List.setIfInBounds_toArray, List.set_cons_zero, List.set_cons_succ]
          refine tkq 11 (some 87) (v := ?_) rfl (Or.inl ⟨by rfl, ?_⟩) (by assumption) ?_
          rotate_left
          · intro w hSw; (try dsimp only at hSw); go_simp; first | done | (with_reducible rfl)
          simp only [Act.put, List.setIfInBounds_toArray, List.set_cons_zero, List.set_cons_succ]
          refine tkq 12 (some 88) (v := ?_) rfl (Or.inl ⟨by rfl, ?_⟩) (by assumption) ?_
          rotate_left
          · intro w hSw; (try dsimp only at hSw); go_simp; first | done | (with_reducible rfl)
          simp only [Act.put, List.setIfInBounds_toArray, List.set_cons_zero, List.set_cons_succ]
          refine tkq 13 (some 89) (v := ?_) rfl (Or.inl ⟨by rfl, ?_⟩) (by assumption) ?_
          rotate_left
          · intro w hSw; (try dsimp only at hSw); go_simp; first | done | (with_reducible rfl)
          simp only [Act.put, List.setIfInBounds_toArray, List.set_cons_zero, List.set_cons_succ]
          refine tkq 14 (some 90) (v := ?_) rfl (Or.inl ⟨by rfl, ?_⟩) (by assumption) ?_
          rotate_left
          · intro w hSw; (try dsimp only at hSw); go_simp; first | done | (with_reducible rfl)
          simp only [Act.put, List.setIfInBounds_toArray, List.set_cons_zero, List.set_cons_succ]
          refine tkq 15 (some 91) (v := ?_) rfl (Or.inl ⟨by rfl, ?_⟩) (by assumption) ?_
          rotate_left
          · intro w hSw; (try dsimp only at hSw); go_simp; first | done | (with_reducible rfl)
          simp only [Act.put, List.setIfInBounds_toArray, List.set_cons_zero, List.set_cons_succ]
          refine tkq 16 (some 92) (v := ?_) rfl (Or.inl ⟨by rfl, ?_⟩) (by assumption) ?_
          rotate_left
          · intro w hSw; (try dsimp only at hSw); go_simp; first | done | (with_reducible rfl)
          simp only [Act.put, List.setIfInBounds_toArray, List.set_cons_zero, List.set_cons_succ]
          refine tkq 17 (some 93) (v := ?_) rfl (Or.inl ⟨by rfl, ?_⟩) (by assumption) ?_
          rotate_left
          · intro w hSw; (try dsimp only at hSw); go_simp; first | done | (with_reducible rfl)
          simp only [Act.put, List.setIfInBounds_toArray, List.set_cons_zero, List.set_cons_succ]
          refine wpAnyH_ready (rs := [18]) (by kernel_rfl) (by simp) ?_
          refine AllReadyH.cons rfl (fun K hK => ?_) AllReadyH.nil
          go_simp
          go_wp2_with (go_at_call 9; (with_reducible refine HA5.out.mono ?_); rintro e w5 ⟨rfl, hG5⟩)
          have g5 := HAK4.out w5 hG5.bl
          refine hK.out _ _ (g5) (fun hHeld => ?_)
          clear hK K
          refine tkq 19 (some 95) (v := ?_) rfl (Or.inl ⟨by rfl, ?_⟩) (by assumption) ?_
          rotate_left
          · intro w hSw; (try dsimp only at hSw); go_simp; first | done | (with_reducible rfl)
          simp only [Act.put, List.setIfInBounds_toArray, List.set_cons_zero, List.set_cons_succ]
          refine wpAnyH_done (by kernel_rfl) ?_ _
          have HG5 := Lib.hid hG5
          have t1 := fun j => (HSTR.out (addS S o1 ((la.drop o1).take (en1 - o1)) true) (w5.drewN j) rfl (HG5.out.drewN j)).1
          have t2 := fun j => (HSTR.out (addS S o1 ((la.drop o1).take (en1 - o1)) true) (w5.drewN j) rfl (HG5.out.drewN j)).2
          clear hG5
          go_wp2_with fail
          go_quiet (fail)
          go_wp2_with fail
          go_roundg (40 - (i + 1))
          case measure => omega
          case rel => exact ⟨i + 1, addS S o1 ((la.drop o1).take (en1 - o1)) true, Ag, cg, by simp, by omega, by omega, by omega, rfl, Lib.hid (HG5.out.drewN _)⟩
        · have hez : ¬ (en1 : Int) = (nw : Int) := by omega
          have hez2 : ((en1 : Int) == (nw : Int)) = false := by simp; omega
          have HA5 := Lib.hid (HADD.out false Y (fun h => by cases h) HGD.out)
          have e4y : Y.cell? ⟨b, off + i * 8 + 4, none⟩ = some (.bool true) := HAK4.out Y HGD.out.bl
          refine wp_region_held_drew (S := (fun W => W.cell? ⟨b, off + i * 8 + 4, none⟩ = some (.bool true))) (by kernel_rfl) (by rw [hYY]; exact e4y) (fun hHeld => ?_)
          rw [hYY]
          refine tkq 0 (some 76) (v := ?_) rfl (Or.inl ⟨by rfl, ?_⟩) (by assumption) ?_
          rotate_left
          · intro w hSw; (try dsimp only at hSw); go_simp; first | done | (with_reducible rfl)
          simp only [Act.put, List.setIfInBounds_toArray, List.set_cons_zero, List.set_cons_succ]
          refine tkq 1 (some 77) (v := ?_) rfl (Or.inl ⟨by rfl, ?_⟩) (by assumption) ?_
          rotate_left
          · intro w hSw; (try dsimp only at hSw); go_simp; first | done | (with_reducible rfl)
          simp only [Act.put, List.setIfInBounds_toArray, List.set_cons_zero, List.set_cons_succ]
          refine tkq 2 (some 78) (v := ?_) rfl (Or.inl ⟨by rfl, ?_⟩) (by assumption) ?_
          rotate_left
          · intro w hSw; (try dsimp only at hSw); go_simp; first | done | (with_reducible rfl)
          simp only [Act.put, List.setIfInBounds_toArray, List.set_cons_zero, List.set_cons_succ]
          refine tkq 3 (some 79) (v := ?_) rfl (Or.inl ⟨by rfl, ?_⟩) (by assumption) ?_
          rotate_left
          · intro w hSw; (try dsimp only at hSw); go_simp; first | done | (with_reducible rfl)
          simp only [Act.put, List.setIfInBounds_toArray, List.set_cons_zero, List.set_cons_succ]
          refine tkq 4 (some 80) (v := ?_) rfl (Or.inl ⟨by rfl, ?_⟩) (by assumption) ?_
          rotate_left
          · intro w hSw; (try dsimp only at hSw); go_simp; first | done | (with_reducible rfl)
          simp only [Act.put, List.setIfInBounds_toArray, List.set_cons_zero, List.set_cons_succ]
          refine tkq 5 (some 81) (v := ?_) rfl (Or.inl ⟨by rfl, ?_⟩) (by assumption) ?_
          rotate_left
          · intro w hSw; (try dsimp only at hSw); go_simp; first | done | (with_reducible rfl)
          simp only [Act.put, List.setIfInBounds_toArray, List.set_cons_zero, List.set_cons_succ]
          refine tkq 6 (some 82) (v := .slice UA (en1 - o1) (c0 - o1)) rfl (Or.inl ⟨by rfl, ?_⟩) (by assumption) ?_
          · intro w hSw; go_simp; (try rw [HUA.out])
          simp only [Act.put, List.setIfInBounds_toArray, List.set_cons_zero, List.set_cons_succ]
          refine tkq 7 (some 83) (v := ?_) rfl (Or.inl ⟨by rfl, ?_⟩) (by assumption) ?_
          rotate_left
          · intro w hSw; (try dsimp only at hSw); go_simp; first | done | (with_reducible rfl)
          simp only [Act.put, List.setIfInBounds_toArray, List.set_cons_zero, List.set_cons_succ]
          refine tkq 8 (some 84) (v := ?_) rfl (Or.inl ⟨by rfl, ?_⟩) (by assumption) ?_
          rotate_left
          · intro w hSw; (try dsimp only at hSw); go_simp; first | done | (with_reducible rfl)
          simp only [Act.put, List.setIfInBounds_toArray, List.set_cons_zero, List.set_cons_succ]
          refine tkq 9 (some 85) (v := ?_) rfl (Or.inl ⟨by rfl, ?_⟩) (by assumption) ?_
          rotate_left
          · intro w hSw; (try dsimp only at hSw); go_simp; first | done | (with_reducible rfl)
          simp only [Act.put, List.setIfInBounds_toArray, List.set_cons_zero, List.set_cons_succ]
          refine tkq 10 (some 86) (v := ?_) rfl (Or.inl ⟨by rfl, ?_⟩) (by assumption) ?_
          rotate_left
          · intro w hSw; (try dsimp only at hSw); go_simp; first | done | (with_reducible rfl)
          simp only [Act.put, List.setIfInBounds_toArray, List.set_cons_zero, List.set_cons_succ]
          refine tkq 11 (some 87) (v := ?_) rfl (Or.inl ⟨by rfl, ?_⟩) (by assumption) ?_
          rotate_left
          · intro w hSw; (try dsimp only at hSw); go_simp; first | done | (with_reducible rfl)
          simp only [Act.put, List.setIfInBounds_toArray, List.set_cons_zero, List.set_cons_succ]
          refine tkq 12 (some 88) (v := ?_) rfl (Or.inl ⟨by rfl, ?_⟩) (by assumption) ?_
          rotate_left
          · intro w hSw; (try dsimp only at hSw); go_simp; first | done | (with_reducible rfl)
          simp only [Act.put, List.setIfInBounds_toArray, List.set_cons_zero, List.set_cons_succ]
          refine tkq 13 (some 89) (v := ?_) rfl (Or.inl ⟨by rfl, ?_⟩) (by assumption) ?_
          rotate_left
          · intro w hSw; (try dsimp only at hSw); go_simp; first | done | (with_reducible rfl)
          simp only [Act.put, List.setIfInBounds_toArray, List.set_cons_zero, List.set_cons_succ]
          refine tkq 14 (some 90) (v := ?_) rfl (Or.inl ⟨by rfl, ?_⟩) (by assumption) ?_
          rotate_left
          · intro w hSw; (try dsimp only at hSw); go_simp; first | done | (with_reducible rfl)
          simp only [Act.put, List.setIfInBounds_toArray, List.set_cons_zero, List.set_cons_succ]
          refine tkq 15 (some 91) (v := ?_) rfl (Or.inl ⟨by rfl, ?_⟩) (by assumption) ?_
          rotate_left
          · intro w hSw; (try dsimp only at hSw); go_simp; first | done | (with_reducible rfl)
          simp only [Act.put, List.setIfInBounds_toArray, List.set_cons_zero, List.set_cons_succ]
          refine tkq 16 (some 92) (v := ?_) rfl (Or.inl ⟨by rfl, ?_⟩) (by assumption) ?_
          rotate_left
          · intro w hSw; (try dsimp only at hSw); go_simp; first | done | (with_reducible rfl)
          simp only [Act.put, List.setIfInBounds_toArray, List.set_cons_zero, List.set_cons_succ]
          refine tkq 17 (some 93) (v := ?_) rfl (Or.inl ⟨by rfl, ?_⟩) (by assumption) ?_
          rotate_left
          · intro w hSw; (try dsimp only at hSw); go_simp; first | done | (with_reducible rfl)
          simp only [Act.put, List.setIfInBounds_toArray, List.set_cons_zero, List.set_cons_succ]
          refine wpAnyH_ready (rs := [18]) (by kernel_rfl) (by simp) ?_
          refine AllReadyH.cons rfl (fun K hK => ?_) AllReadyH.nil
          go_simp
          go_wp2_with (go_at_call 9; (with_reducible refine HA5.out.mono ?_); rintro e w5 ⟨rfl, hG5⟩)
          have g5 := HAK4.out w5 hG5.bl
          refine hK.out _ _ (g5) (fun hHeld => ?_)
          clear hK K
          refine tkq 19 (some 95) (v := ?_) rfl (Or.inl ⟨by rfl, ?_⟩) (by assumption) ?_
          rotate_left
          · intro w hSw; (try dsimp only at hSw); go_simp; first | done | (with_reducible rfl)
          simp only [Act.put, List.setIfInBounds_toArray, List.set_cons_zero, List.set_cons_succ]
          refine wpAnyH_done (by kernel_rfl) ?_ _
          have HG5 := Lib.hid hG5
          have t1 := fun j => (HSTR.out (addS S o1 ((la.drop o1).take (en1 - o1)) false) (w5.drewN j) rfl (HG5.out.drewN j)).1
          have t2 := fun j => (HSTR.out (addS S o1 ((la.drop o1).take (en1 - o1)) false) (w5.drewN j) rfl (HG5.out.drewN j)).2
          clear hG5
          go_wp2_with fail
          go_quiet (fail)
          go_wp2_with fail
          go_roundg (40 - (i + 1))
          case measure => omega
          case rel => exact ⟨i + 1, addS S o1 ((la.drop o1).take (en1 - o1)) false, Ag, cg, by simp, by omega, by omega, by omega, rfl, Lib.hid (HG5.out.drewN _)⟩
    · have hend : ¬ (i : Int) < (n : Int) ∨ ((i : Int) < (n : Int) ∧ ¬ (i : Int) < 40) := by omega
      clear hgo
      have HADD : Hid (Calls Try.prog 9 #[.pointer (some ⟨p, 0, none⟩), .int .u64 0, .slice A0 nw c0, .bool true] wr fun e w' => e = .returned (.int .i64 0) ∧ Gt w w' p la (.slice Ag S.rd cg) (addS S 0 la true)) := Lib.hid (gt_add hG.out 0 A0 nw c0 true HRA.out hnwc (by rw [HLA.out]; omega) (by rw [HLA.out]; omega) (fun _ => by rw [HLA.out]; omega) (by rw [List.drop_zero, ← HLA.out, List.take_length]))
      have hISR := hG.out.ord.full hok
      rw [HLA.out] at hISR
      have HISR := Lib.hid hISR
      have hflag : ((addS S 0 la true).en && decide ((addS S 0 la true).rd + (nw - S.rd) = (addS S 0 la true).fi)) = true := by
        have e1 : (addS S 0 la true).en = true := by show (S.en || true) = true; simp
        have e2 : (addS S 0 la true).fi = la.length := by show 0 + la.length = _; omega
        have e3 : (addS S 0 la true).rd = S.rd := rfl
        rw [e1, e2, e3, HLA.out]
        simp
        omega
      have HWH : Hid (∀ W, Gt w W p la (.slice Ag S.rd cg) (addS S 0 la true) → Calls Try.prog 15 #[.pointer (some ⟨p, 0, none⟩)] W fun e w' => e = .returned (.bool true) ∧ Gt w w' p la (.slice Ag S.rd cg) (addS S 0 la true)) := Lib.hid (fun W h => (ob_whole h.ob _ HISR.out).mono fun e w' ⟨h1, h2, h3⟩ => ⟨by rw [h1, hflag], h.below h3⟩)
      have HTK : Hid (∀ W, Gt w W p la (.slice Ag S.rd cg) (addS S 0 la true) → Calls Try.prog 13 #[.pointer (some ⟨p, 0, none⟩), .int .i64 1000] W fun e w' => ∃ v, e = .returned (.tuple #[v, .bool true]) ∧ Own w' W.heap.size 5 v (la.drop S.rd) ∧ Below w.heap.size w w' ∧ Own w' w.heap.size 5 (.slice Ag S.rd cg) (la.take S.rd)) := Lib.hid (fun W h => by
        refine (ob_take h.ob 1000 (by omega) _ HISR.out).mono fun e w' ⟨v, he, ho, hb, hF, _⟩ => ⟨v, ?_, ?_, hb.bl, h.own.keep hF⟩
        · rw [show min (1000 : Int).toNat (nw - S.rd) = nw - S.rd by show min 1000 _ = _; omega, hflag] at he
          exact he
        · rw [show min (1000 : Int).toNat (nw - S.rd) = nw - S.rd by show min 1000 _ = _; omega] at ho
          have e1 := h.ord.out HISR.out (Nat.le_refl _)
          rw [e1, show (addS S 0 la true).rd = S.rd from rfl, List.take_of_length_le (by rw [List.length_drop, HLA.out]; exact Nat.le_refl _)] at ho
          exact ho)
      have hbb := bb_refl (strOfNums la)
      have HDL : Hid ((la.drop S.rd).length = nw - S.rd) := Lib.hid (by rw [List.length_drop, HLA.out])
      have HTL : Hid (((la.take S.rd).map (Value.int .u8)).length = S.rd) := Lib.hid (by rw [List.length_map]; exact HGL.out)
      clear hISR hflag hG hok
      rcases hend with h1 | ⟨h1, h2⟩
      · go_wp2_with (first
          | (go_at_call 9; (with_reducible refine HADD.out.mono ?_); rintro e w5 ⟨rfl, hG5⟩; have HG5 := Lib.hid hG5; clear hG5)
          | (go_at_call 15; (with_reducible refine (HWH.out w5 HG5.out).mono ?_); rintro e w6 ⟨rfl, hG6⟩; have HG6 := Lib.hid hG6; clear hG6)
          | (go_at_call 13; (with_reducible refine (HTK.out w6 HG6.out).mono ?_); rintro e w7 ⟨v, rfl, ho7, hb7, hg7⟩; obtain ⟨A7, c7, rfl, _, _, hr7⟩ := ho7.open_n _ HDL.out; have HB7 := Lib.hid hb7; have HG7 := Lib.hid (own_ow hg7); have HR7 := Lib.hid hr7; clear ho7 hb7 hg7 hr7))
        have HBY7 : Hid (Below w.heap.size w w7.drew) := Lib.hid HB7.out.drew
        have how : Ow w7.drew w.heap.size 5 (.slice Ag S.rd cg) ((la.take S.rd).map (Value.int .u8)) := ow_keep HG7.out fun _ _ => rfl
        have hsrc : 0 < nw - S.rd → ∃ ad, A7 = some ad ∧ ∀ j u, ((la.drop S.rd).map (Value.int .u8))[j]? = some u → w7.drew.cell? (ad.add j) = some u := rd_src HR7.out
        generalize hYY : w7.drew = Y at HBY7 how hsrc
        have HNB : Hid (w.heap.size ≤ Y.heap.size) := Lib.hid HBY7.out.size
        refine wp_region_held_drew (S := (fun W => Below w.heap.size w W)) (by kernel_rfl) (by rw [hYY]; exact HBY7.out) (fun hHeld => ?_)
        rw [hYY]
        refine tkq 0 (some 125) (v := ?_) rfl (Or.inl ⟨by rfl, ?_⟩) (by assumption) ?_
        rotate_left
        · intro w hSw; (try dsimp only at hSw); go_simp; first | done | (with_reducible rfl)
        simp only [Act.put, List.setIfInBounds_toArray, List.set_cons_zero, List.set_cons_succ]
        refine tkq 1 (some 126) (v := ?_) rfl (Or.inl ⟨by rfl, ?_⟩) (by assumption) ?_
        rotate_left
        · intro w hSw; (try dsimp only at hSw); go_simp; first | done | (with_reducible rfl)
        simp only [Act.put, List.setIfInBounds_toArray, List.set_cons_zero, List.set_cons_succ]
        refine tkq 4 (some 129) (v := ?_) rfl (Or.inl ⟨by rfl, ?_⟩) (by assumption) ?_
        rotate_left
        · intro w hSw; (try dsimp only at hSw); go_simp; first | done | (with_reducible rfl)
        simp only [Act.put, List.setIfInBounds_toArray, List.set_cons_zero, List.set_cons_succ]
        refine tkq 5 (some 130) (v := .string (strOfNums la)) rfl (Or.inl ⟨by rfl, ?_⟩) (by assumption) ?_
        · intro W hSw; have t := run_text (P := Try.prog) (c := c0) (HRA.out.below hSw) 22 5 9 Try.underlying22 Try.underlying5 Try.underlying9; go_simp; (try simp [t])
        simp only [Act.put, List.setIfInBounds_toArray, List.set_cons_zero, List.set_cons_succ]
        refine wpAnyH_ready (rs := [2]) (by kernel_rfl) (by simp) ?_
        refine AllReadyH.cons rfl (fun K hK => ?_) AllReadyH.nil
        refine step_app1 o8 rfl (.tmp 125) (.tmp 126) rfl w.heap.size _ _ (by simp [Act.eval, Act.put]) how A7 (nw - S.rd) c7 (by simp [Act.eval, Act.put]) ((la.drop S.rd).map (Value.int .u8)) (by rw [List.length_map]; exact HDL.out) hsrc (oneCell_u8 _) (by rw [HTL.out]; omega) HNB.out ?_
        intro v9 w9 hv9 hg9 _ _
        have hb9 := HBY7.out.grown hg9 HNB.out (fun k hk => (ow_lt how k hk).1)
        have ho9 := ow_own (T := 5) (bs := la) (by rw [← List.map_append, List.take_append_drop] at hv9; exact hv9) HBY.out
        obtain ⟨A9, c9, rfl, _, _, hr9⟩ := ho9.open_n nw HLA.out
        have t9 := run_text (P := Try.prog) (c := c9) hr9 22 5 9 Try.underlying22 Try.underlying5 Try.underlying9
        refine hK.out _ _ (hb9) (fun hHeld => ?_)
        clear hK K
        refine wpAnyH_ready (rs := [3]) (by kernel_rfl) (by simp) ?_
        refine AllReadyH.cons rfl (fun K hK => ?_) AllReadyH.nil
        go_simp
        go_wp2_with (fail)
        have HKX := Lib.hid (HKN.out w9)
        refine hK.out _ _ (hb9) (fun hHeld => ?_)
        clear hK K
        refine tkq 6 (some 131) (v := ?_) rfl (Or.inl ⟨by rfl, ?_⟩) (by assumption) ?_
        rotate_left
        · intro w hSw; (try dsimp only at hSw); go_simp; first | done | (with_reducible rfl)
        simp only [Act.put, List.setIfInBounds_toArray, List.set_cons_zero, List.set_cons_succ]
        refine tkq 7 (some 132) (v := ?_) rfl (Or.inl ⟨by rfl, ?_⟩) (by assumption) ?_
        rotate_left
        · intro w hSw; (try dsimp only at hSw); go_simp; first | done | (with_reducible rfl)
        simp only [Act.put, List.setIfInBounds_toArray, List.set_cons_zero, List.set_cons_succ]
        refine tkq 8 (some 133) (v := ?_) rfl (Or.inl ⟨by rfl, ?_⟩) (by assumption) ?_
        rotate_left
        · intro w hSw; (try dsimp only at hSw); go_simp; first | done | (with_reducible rfl)
        simp only [Act.put, List.setIfInBounds_toArray, List.set_cons_zero, List.set_cons_succ]
        refine tkq 9 (some 134) (v := ?_) rfl (Or.inl ⟨by rfl, ?_⟩) (by assumption) ?_
        rotate_left
        · intro w hSw; (try dsimp only at hSw); go_simp; first | done | (with_reducible rfl)
        simp only [Act.put, List.setIfInBounds_toArray, List.set_cons_zero, List.set_cons_succ]
        refine tkq 10 (some 135) (v := ?_) rfl (Or.inl ⟨by rfl, ?_⟩) (by assumption) ?_
        rotate_left
        · intro w hSw; (try dsimp only at hSw); go_simp; first | done | (with_reducible rfl)
        simp only [Act.put, List.setIfInBounds_toArray, List.set_cons_zero, List.set_cons_succ]
        refine wpAnyH_ready (rs := [11]) (by kernel_rfl) (by simp) ?_
        refine AllReadyH.cons rfl (fun K hK => ?_) AllReadyH.nil
        go_simp
        go_wp2_with (go_at_call 11; (with_reducible refine HKX.out.mono ?_); rintro e w10 ⟨rfl, hb10⟩)
        have hbz := hb9.trans (hb10.mono hb9.size)
        refine hK.out _ _ (hbz) (fun hHeld => ?_)
        clear hK K
        refine tkq 12 (some 137) (v := ?_) rfl (Or.inl ⟨by rfl, ?_⟩) (by assumption) ?_
        rotate_left
        · intro w hSw; (try dsimp only at hSw); go_simp; first | done | (with_reducible rfl)
        simp only [Act.put, List.setIfInBounds_toArray, List.set_cons_zero, List.set_cons_succ]
        refine tkq 13 (some 4) (v := ?_) rfl (Or.inl ⟨by rfl, ?_⟩) (by assumption) ?_
        rotate_left
        · intro w hSw; (try dsimp only at hSw); go_simp; first | done | (with_reducible rfl)
        simp only [Act.put, List.setIfInBounds_toArray, List.set_cons_zero, List.set_cons_succ]
        refine wpAnyH_done (by kernel_rfl) ?_ _
        go_wp2
        go_ret
        exact ⟨by first | rfl | simp, hbz⟩
      · go_wp2_with (first
          | (go_at_call 9; (with_reducible refine HADD.out.mono ?_); rintro e w5 ⟨rfl, hG5⟩; have HG5 := Lib.hid hG5; clear hG5)
          | (go_at_call 15; (with_reducible refine (HWH.out w5 HG5.out).mono ?_); rintro e w6 ⟨rfl, hG6⟩; have HG6 := Lib.hid hG6; clear hG6)
          | (go_at_call 13; (with_reducible refine (HTK.out w6 HG6.out).mono ?_); rintro e w7 ⟨v, rfl, ho7, hb7, hg7⟩; obtain ⟨A7, c7, rfl, _, _, hr7⟩ := ho7.open_n _ HDL.out; have HB7 := Lib.hid hb7; have HG7 := Lib.hid (own_ow hg7); have HR7 := Lib.hid hr7; clear ho7 hb7 hg7 hr7))
        have HBY7 : Hid (Below w.heap.size w w7.drew) := Lib.hid HB7.out.drew
        have how : Ow w7.drew w.heap.size 5 (.slice Ag S.rd cg) ((la.take S.rd).map (Value.int .u8)) := ow_keep HG7.out fun _ _ => rfl
        have hsrc : 0 < nw - S.rd → ∃ ad, A7 = some ad ∧ ∀ j u, ((la.drop S.rd).map (Value.int .u8))[j]? = some u → w7.drew.cell? (ad.add j) = some u := rd_src HR7.out
        generalize hYY : w7.drew = Y at HBY7 how hsrc
        have HNB : Hid (w.heap.size ≤ Y.heap.size) := Lib.hid HBY7.out.size
        refine wp_region_held_drew (S := (fun W => Below w.heap.size w W)) (by kernel_rfl) (by rw [hYY]; exact HBY7.out) (fun hHeld => ?_)
        rw [hYY]
        refine tkq 0 (some 125) (v := ?_) rfl (Or.inl ⟨by rfl, ?_⟩) (by assumption) ?_
        rotate_left
        · intro w hSw; (try dsimp only at hSw); go_simp; first | done | (with_reducible rfl)
        simp only [Act.put, List.setIfInBounds_toArray, List.set_cons_zero, List.set_cons_succ]
        refine tkq 1 (some 126) (v := ?_) rfl (Or.inl ⟨by rfl, ?_⟩) (by assumption) ?_
        rotate_left
        · intro w hSw; (try dsimp only at hSw); go_simp; first | done | (with_reducible rfl)
        simp only [Act.put, List.setIfInBounds_toArray, List.set_cons_zero, List.set_cons_succ]
        refine tkq 4 (some 129) (v := ?_) rfl (Or.inl ⟨by rfl, ?_⟩) (by assumption) ?_
        rotate_left
        · intro w hSw; (try dsimp only at hSw); go_simp; first | done | (with_reducible rfl)
        simp only [Act.put, List.setIfInBounds_toArray, List.set_cons_zero, List.set_cons_succ]
        refine tkq 5 (some 130) (v := .string (strOfNums la)) rfl (Or.inl ⟨by rfl, ?_⟩) (by assumption) ?_
        · intro W hSw; have t := run_text (P := Try.prog) (c := c0) (HRA.out.below hSw) 22 5 9 Try.underlying22 Try.underlying5 Try.underlying9; go_simp; (try simp [t])
        simp only [Act.put, List.setIfInBounds_toArray, List.set_cons_zero, List.set_cons_succ]
        refine wpAnyH_ready (rs := [2]) (by kernel_rfl) (by simp) ?_
        refine AllReadyH.cons rfl (fun K hK => ?_) AllReadyH.nil
        refine step_app1 o8 rfl (.tmp 125) (.tmp 126) rfl w.heap.size _ _ (by simp [Act.eval, Act.put]) how A7 (nw - S.rd) c7 (by simp [Act.eval, Act.put]) ((la.drop S.rd).map (Value.int .u8)) (by rw [List.length_map]; exact HDL.out) hsrc (oneCell_u8 _) (by rw [HTL.out]; omega) HNB.out ?_
        intro v9 w9 hv9 hg9 _ _
        have hb9 := HBY7.out.grown hg9 HNB.out (fun k hk => (ow_lt how k hk).1)
        have ho9 := ow_own (T := 5) (bs := la) (by rw [← List.map_append, List.take_append_drop] at hv9; exact hv9) HBY.out
        obtain ⟨A9, c9, rfl, _, _, hr9⟩ := ho9.open_n nw HLA.out
        have t9 := run_text (P := Try.prog) (c := c9) hr9 22 5 9 Try.underlying22 Try.underlying5 Try.underlying9
        refine hK.out _ _ (hb9) (fun hHeld => ?_)
        clear hK K
        refine wpAnyH_ready (rs := [3]) (by kernel_rfl) (by simp) ?_
        refine AllReadyH.cons rfl (fun K hK => ?_) AllReadyH.nil
        go_simp
        go_wp2_with (fail)
        have HKX := Lib.hid (HKN.out w9)
        refine hK.out _ _ (hb9) (fun hHeld => ?_)
        clear hK K
        refine tkq 6 (some 131) (v := ?_) rfl (Or.inl ⟨by rfl, ?_⟩) (by assumption) ?_
        rotate_left
        · intro w hSw; (try dsimp only at hSw); go_simp; first | done | (with_reducible rfl)
        simp only [Act.put, List.setIfInBounds_toArray, List.set_cons_zero, List.set_cons_succ]
        refine tkq 7 (some 132) (v := ?_) rfl (Or.inl ⟨by rfl, ?_⟩) (by assumption) ?_
        rotate_left
        · intro w hSw; (try dsimp only at hSw); go_simp; first | done | (with_reducible rfl)
        simp only [Act.put, List.setIfInBounds_toArray, List.set_cons_zero, List.set_cons_succ]
        refine tkq 8 (some 133) (v := ?_) rfl (Or.inl ⟨by rfl, ?_⟩) (by assumption) ?_
        rotate_left
        · intro w hSw; (try dsimp only at hSw); go_simp; first | done | (with_reducible rfl)
        simp only [Act.put, List.setIfInBounds_toArray, List.set_cons_zero, List.set_cons_succ]
        refine tkq 9 (some 134) (v := ?_) rfl (Or.inl ⟨by rfl, ?_⟩) (by assumption) ?_
        rotate_left
        · intro w hSw; (try dsimp only at hSw); go_simp; first | done | (with_reducible rfl)
        simp only [Act.put, List.setIfInBounds_toArray, List.set_cons_zero, List.set_cons_succ]
        refine tkq 10 (some 135) (v := ?_) rfl (Or.inl ⟨by rfl, ?_⟩) (by assumption) ?_
        rotate_left
        · intro w hSw; (try dsimp only at hSw); go_simp; first | done | (with_reducible rfl)
        simp only [Act.put, List.setIfInBounds_toArray, List.set_cons_zero, List.set_cons_succ]
        refine wpAnyH_ready (rs := [11]) (by kernel_rfl) (by simp) ?_
        refine AllReadyH.cons rfl (fun K hK => ?_) AllReadyH.nil
        go_simp
        go_wp2_with (go_at_call 11; (with_reducible refine HKX.out.mono ?_); rintro e w10 ⟨rfl, hb10⟩)
        have hbz := hb9.trans (hb10.mono hb9.size)
        refine hK.out _ _ (hbz) (fun hHeld => ?_)
        clear hK K
        refine tkq 12 (some 137) (v := ?_) rfl (Or.inl ⟨by rfl, ?_⟩) (by assumption) ?_
        rotate_left
        · intro w hSw; (try dsimp only at hSw); go_simp; first | done | (with_reducible rfl)
        simp only [Act.put, List.setIfInBounds_toArray, List.set_cons_zero, List.set_cons_succ]
        refine tkq 13 (some 4) (v := ?_) rfl (Or.inl ⟨by rfl, ?_⟩) (by assumption) ?_
        rotate_left
        · intro w hSw; (try dsimp only at hSw); go_simp; first | done | (with_reducible rfl)
        simp only [Act.put, List.setIfInBounds_toArray, List.set_cons_zero, List.set_cons_succ]
        refine wpAnyH_done (by kernel_rfl) ?_ _
        go_wp2
        go_ret
        exact ⟨by first | rfl | simp, hbz⟩
end Go.Proofs.Ythgbnknahnaemaa
