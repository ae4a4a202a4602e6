/-
  frame.All, whatever bytes.
-/
import Derived.Test.YtiklelecoekkjaaDec
import Derived.Test.YtiklelecoekkjaaBs
namespace Go.Proofs.Ytiklelecoekkjaa
set_option linter.unusedVariables false
set_option linter.unusedSimpArgs false
open Go.RowKit
set_option maxRecDepth 100000 in
set_option maxHeartbeats 2000000 in
theorem all_any (A : Option Addr) (n c : Nat) (bs : List Int) (w : World) (hr : Rd w w.heap.size A n bs) (hn : n ≤ 10000000000) (hA : A = none → c = 0) :
    Calls Try.prog 20 #[.slice A n c] w (AllPost bs w) := by
  have HL := Lib.hid hr.1
  have hby := hr.2.1
  go_enter Try.func20, Try.ntmps20
  go_wp2_with fail
  refine (of_any A n c bs w hr (by omega) hA).mono ?_
  rintro e w1 ⟨p, rfl, hp, hr1, hb1⟩
  have hpl : p < w1.heap.size := by obtain ⟨_, _, _, h, _⟩ := hr1; exact h.lt
  have HI : Hid (AllL w p (bs, false) (allO (bs.length + 1) (bs, false)) (bs.length + 1) (.slice none 0 0) w1 (bs, false) []) := Lib.hid
    ⟨hr1, World.ownsRow_nil _ _ _ _, fun _ h => by simp at h, hb1, by cases allO (bs.length + 1) (bs, false) <;> simp, by simp, hpl, hp, by simp⟩
  clear hr1 hb1
  obtain ⟨tot, htot⟩ : ∃ x, allO (bs.length + 1) (bs, false) = x := ⟨_, rfl⟩
  have HTOT := Lib.hid htot
  rw [htot] at HI
  obtain ⟨G, hG⟩ : ∃ x, bs.length + 1 = x := ⟨_, rfl⟩
  have hGn : G ≤ n + 1 := by rw [← hG, HL.out]; exact Nat.le_refl _
  rw [hG] at HI
  clear htot hG
  go_wp2_with fail
  go_loopg [5] G (fun gk l wr => ∃ (A : Option Addr) (k c : Nat) (s : St) (L : List FR), l = .slice A k c ∧ gk ≤ G ∧ Hid (AllL w p (bs, false) tot gk (.slice A k c) wr s L ∧ Byt s.1))
  case atStart => exact ⟨none, 0, 0, _, _, rfl, Nat.le_refl _, Lib.hid ⟨HI.out, hby⟩⟩
  case round =>
    clear HI
    obtain ⟨Ak, k, ck, s, L, rfl, hgk, hat⟩ := hrel
    have hps := hat.out.1.ps
    have hlt := hat.out.1.lt
    have hpw := hat.out.1.pw
    have hbs := hat.out.1.bl.size
    go_wp2_with fail
    refine (read_any p _ _ s wr hat.out.1.rd (fun b hb => by omega) (by omega)).mono ?_
    intro e w2 hpost
    unfold ReadPost at hpost
    cases hro : readO s with
    | none =>
      rw [hro] at hpost
      obtain ⟨rfl, hk2⟩ := hpost
      have hz : tot = none := by
        rw [hat.out.1.eq]
        obtain ⟨g', rfl⟩ : ∃ g', gk = g' + 1 := ⟨gk - 1, by omega⟩
        simp [allO, hro]
      have HZ := Lib.hid hz
      have hB2 := hk2.below hat.out.1.bl (by omega) (fun j hj => by omega)
      obtain ⟨LZ, hLZ⟩ : ∃ L, frL (FN.zero 0) .nil .nil = L := ⟨_, rfl⟩
      have hLl : LZ.length = 19 := by rw [← hLZ]; rfl
      have hone : LZ.all (·.oneCell') = true := by rw [← hLZ]; rfl
      have hfv : frV (FN.zero 0) .nil .nil = .agg LZ.toArray := by rw [← hLZ]; rfl
      have HLl := Lib.hid hLl
      have HO := Lib.hid hone
      rw [hfv]
      clear hro hk2 hLZ hLl hone hfv hz
      go_wp2_with (first | ((with_reducible refine at_st (x := .tmp 6) ?_); refine st_top _ _ LZ (by rfl) _ (by rfl) (by simp) (by rfl) (by rfl) HLl.out HO.out ?_) | fail)
      go_ret2
      exact AllPost.no (HTOT.out.trans HZ.out) (hB2.alloc (by have := hB2.size; omega) _)
    | some x =>
      obtain ⟨m, ds, rs, s'⟩ := x
      rw [hro] at hpost
      obtain ⟨d, r, rfl, hf2, hr2, hk2⟩ := hpost
      simp only at hf2 hr2
      obtain ⟨y, rfl, rfl, rfl, rfl, rfl⟩ : ∃ y : FR, y.m = m ∧ y.d = d ∧ y.r = r ∧ y.ds = ds ∧ y.rs = rs := ⟨⟨m, d, r, ds, rs⟩, rfl, rfl, rfl, rfl, rfl⟩
      obtain ⟨_, _, _, q, q1, q2, q3⟩ := readO_eats s hat.out.2 y.m y.ds y.rs s' hro
      have hlen' : s'.1.length < s.1.length := by rw [q3, List.length_drop]; omega
      have hby' : Byt s'.1 := by rw [q3]; exact hat.out.2.drop q
      have heq : tot = if s'.1.length = 0 then some ((L ++ [y]).map FR.fd) else (allO (gk - 1) s').map ((L ++ [y]).map FR.fd ++ ·) := by
        rw [hat.out.1.eq]
        obtain ⟨g', rfl⟩ : ∃ g', gk = g' + 1 := ⟨gk - 1, by omega⟩
        simp only [allO, hro, Nat.add_sub_cancel]
        split
        · simp [FR.fd]
        · cases allO g' s' with
          | none => rfl
          | some t => simp [FR.fd]
      have hB2 := hk2.below hat.out.1.bl (by omega) (fun j hj => by omega)
      have hvb := hat.out.1.own.block_lt
      have O2 := hat.out.1.own.kept hk2 (fun i hi e => by have := (hvb i hi).1; omega)
      have F2 : ∀ x ∈ L, Fits w2 (fun b => p < b ∧ (Value.slice Ak k ck).ownBlock ≠ some b) x.m x.d x.r x.ds x.rs := fun x hx => (hat.out.1.ft x hx).kept hk2 (fun b hb e => by omega)
      have F2y : Fits w2 (fun b => p < b ∧ (Value.slice Ak k ck).ownBlock ≠ some b) y.m y.d y.r y.ds y.rs := hf2.mono (fun b _ hb => ⟨by omega, fun e => by have := (hvb b e).2; omega⟩)
      have hln := hat.out.1.ln
      have hs2 := hk2.size
      obtain ⟨LF, hLF⟩ : ∃ L, frL y.m y.d y.r = L := ⟨_, rfl⟩
      have hLl : LF.length = 19 := by rw [← hLF]; rfl
      have hone : LF.all (·.oneCell') = true := by rw [← hLF]; rfl
      have hfv : frV y.m y.d y.r = .agg LF.toArray := by rw [← hLF]; rfl
      have hbB : Below w2.heap.size w2 ((w2.alloc (.cells LF.toArray 31)).alloc (.cells LF.toArray 31)) := ((Below.refl _ _).alloc (Nat.le_refl _) _).alloc (by simp) _
      have O3 := O2.kept (Kept.of_below hbB (fun _ => False)) (fun _ _ h => h)
      have F3 := fun x hx => (F2 x hx).below hbB
      have F3y := F2y.below hbB
      have R3 := hr2.kept (Kept.of_below hbB (fun _ => False)) (fun h => h) (fun _ _ h => h)
      have B3 := hB2.trans (hbB.mono (by omega))
      have C3 : At ((w2.alloc (.cells LF.toArray 31)).alloc (.cells LF.toArray 31)) (w2.heap.size + 1) 31 (frL y.m y.d y.r) := by rw [hLF]; exact At.new_ _ _ _ (by simp)
      have A6 := At.new w2 31 LF
      have hs3 : ((w2.alloc (.cells LF.toArray 31)).alloc (.cells LF.toArray 31)).heap.size = w2.heap.size + 1 + 1 := by simp
      have HLl := Lib.hid hLl
      have HO := Lib.hid hone
      have HEQ := Lib.hid heq
      have HO3 := Lib.hid O3
      have HC3 := Lib.hid C3
      have HS3 := Lib.hid hs3
      rw [hfv]
      have hLn : L.length ≤ 100000000000 := by have := HL.out; simp only at hln; omega
      have hbs3 : p + 1 ≤ ((w2.alloc (.cells LF.toArray 31)).alloc (.cells LF.toArray 31)).heap.size := by omega
      have HBS := Lib.hid hbs3
      have HBY := Lib.hid hby'
      clear hro hk2 hLF hLl hone hfv hat q1 q2 q3 heq O2 F2 F2y O3 C3 hs3 hbs3 hby' hbB hf2 hr2
      go_wp2_with (first | ((with_reducible refine at_st (x := .tmp 6) ?_); refine st_top _ _ LF (by rfl) _ (by rfl) (by simp) (by rfl) (by rfl) HLl.out HO.out ?_) | ((with_reducible refine at_ld (x := .tmp 6) ?_); refine ld_fr_g _ _ (by rfl) (by rfl) A6 HLl.out ?_) | (refine wpList_bs1 LF (w2.heap.size + 1) (by simp) (by rfl) HLl.out ?_) | (at_builtin; refine wpList_append_f rfl (.tmp 17) (.tmp 19) rfl (p + 1) _ L rfl HO3.out (w2.heap.size + 1) 1 y (by rfl) HC3.out hLn HBS.out ?_; intro v7 w7 hown7 hgr7 hv7; obtain ⟨A7, c7, rfl, hc7, hm7⟩ := hown7.shape (L.length + 1) (by simp)))
      have K7 := Kept.of_grown (S := fun k' => (Value.slice Ak k ck).ownBlock = some k') hgr7 (fun k hk => .inl hk)
      have hvb3 : ∀ k', (Value.slice Ak k ck).ownBlock = some k' → p + 1 ≤ k' := fun k' hk' => (HO3.out.block_lt k' hk').1
      have R7 := R3.kept K7 (fun hk => by have := hvb3 _ hk; omega) (fun b hb hk => by have := hvb3 _ hk; omega)
      have B7 : Below w.heap.size w w7 := K7.below B3 (by have := B3.size; omega) (fun j hj => by have := hvb3 j hj; omega)
      have F7 : ∀ x ∈ L ++ [y], Fits w7 (fun b => p < b ∧ (Value.slice A7 (L.length + 1) c7).ownBlock ≠ some b) x.m x.d x.r x.ds x.rs := fun x hx => by
        have hx3 : Fits ((w2.alloc (.cells LF.toArray 31)).alloc (.cells LF.toArray 31)) (fun b => p < b ∧ (Value.slice Ak k ck).ownBlock ≠ some b) x.m x.d x.r x.ds x.rs := by
          rcases List.mem_append.1 hx with hx | hx
          · exact F3 x hx
          · simp at hx; subst hx; exact F3y
        have hx4 : Fits ((w2.alloc (.cells LF.toArray 31)).alloc (.cells LF.toArray 31)) (fun b => (p < b ∧ (Value.slice Ak k ck).ownBlock ≠ some b) ∧ (Value.slice A7 (L.length + 1) c7).ownBlock ≠ some b) x.m x.d x.r x.ds x.rs := hx3.mono (fun b hb hP => ⟨hP, fun e => by
          rcases hv7 with h | h
          · rw [h] at e; exact hP.2 e
          · rw [h] at e; injection e with e; omega⟩)
        exact (hx4.kept K7 (fun b hb e => hb.1.2 e)).mono (fun b _ hb => ⟨hb.1.1, hb.2⟩)
      have hs7 : p < w7.heap.size := by have := K7.size; have := HBS.out; omega
      have HR7 := Lib.hid R7
      have HB7 := Lib.hid B7
      have HF7 := Lib.hid F7
      have HO7 := Lib.hid hown7
      clear R7 B7 F7 hown7 K7 hgr7 hv7 R3 B3 F3 F3y A6 hB2
      refine (left_any p _ _ s' _ HR7.out).mono ?_
      rintro e w8 ⟨rfl, rfl⟩
      rcases Nat.eq_zero_or_pos s'.1.length with hz | hz
      · have HEQ2 : Hid (tot = some ((L ++ [y]).map FR.fd)) := Lib.hid (by rw [HEQ.out, if_pos hz])
        rw [hz]
        clear hz
        go_wp2_with fail
        go_ret2
        refine AllPost.yes (HTOT.out.trans HEQ2.out) ((HO7.out.frsP (by simp) (fun b hb => ?_) (fun x hx => (HF7.out x hx).mono (P' := fun b => p < b) (fun b _ hb => hb.1))).mono (P' := fun b => w.heap.size ≤ b) (fun b _ hb => by omega)) hc7 hm7 HB7.out
        omega
      · have HEQ2 : Hid (tot = (allO (gk - 1) s').map ((L ++ [y]).map FR.fd ++ ·)) := Lib.hid (by rw [HEQ.out, if_neg (by omega)])
        obtain ⟨N', hN'⟩ : ∃ x, s'.1.length = x := ⟨_, rfl⟩
        have hne : ((N' : Int) == 0) = false := beq_eq_false_iff_ne.2 (by omega)
        have HN : Hid (AllL w p (bs, false) tot (gk - 1) (.slice A7 (L.length + 1) c7) w7 s' (L ++ [y])) := Lib.hid
          ⟨HR7.out, HO7.out, HF7.out, HB7.out, HEQ2.out, by omega, hs7, hpw, by rw [List.length_append]; simp only [List.length_cons, List.length_nil]; omega⟩
        rw [hN']
        clear hN' hz
        go_wp2_with fail
        go_roundg (gk - 1)
        case measure => omega
        case rel => exact ⟨_, _, _, s', _, rfl, by omega, Lib.hid ⟨HN.out, HBY.out⟩⟩
end Go.Proofs.Ytiklelecoekkjaa
