/-
  FrameCuts: beginnings of a frame are none; frames one behind the other are as many as they are; a copy is by itself.
-/
import Derived.Test.YtcobcgbpmkpljaaDec
import Derived.Test.YtcobcgbpmkpljaaBs
import Derived.Test.YtcobcgbpmkpljaaRd2
import Derived.Test.YtcobcgbpmkpljaaRight2
import Derived.Test.YtcobcgbpmkpljaaRead0
import Derived.Test.YtcobcgbpmkpljaaFsame
import Derived.Test.YtcobcgbpmkpljaaProg
import Derived.Test.YtcobcgbpmkpljaaStru
import Derived.Test.YtcobcgbpmkpljaaSl
import Derived.Test.YtcobcgbpmkpljaaStrs
import Derived.Test.YtcobcgbpmkpljaaInts
import Derived.Test.YtcobcgbpmkpljaaOpenRow
import Derived.Deep.QuietTactic
import Derived.BigQuiet
import Derived.Deep.RegionHeld3
import Derived.WalkSpells
import Derived.Test.YtcobcgbpmkpljaaCid8
import Derived.Test.YtcobcgbpmkpljaaWtr
import Derived.Deep.RegionHeld
import Derived.Test.YtcobcgbpmkpljaaInRow
import Derived.Test.YtcobcgbpmkpljaaKeep
import Derived.Test.YtcobcgbpmkpljaaRg
import Derived.Test.YtcobcgbpmkpljaaTrip2
import Derived.Test.YtcobcgbpmkpljaaWrite
import Derived.Test.YtcobcgbpmkpljaaEat
import Derived.Test.YtcobcgbpmkpljaaEnc
import Derived.Test.YtcobcgbpmkpljaaKframes
import Derived.Deep.Cut
namespace Go.Proofs.Ytcobcgbpmkpljaa
section
set_option linter.unusedVariables false
set_option linter.unusedSimpArgs false
open Go.RowKit
set_option maxRecDepth 100000 in
set_option maxHeartbeats 2000000 in
theorem all_any (A : Option Addr) (n c : Nat) (bs : List Int) (w : World) (hr : Rd w w.heap.size A n bs) (hn : n ≤ 10000000000) (hA : A = none → c = 0) :
    Calls Try.prog 20 #[.slice A n c] w (AllPost bs w) := by
  have HL := Lib.hid hr.1
  have hby := hr.2.1
  go_enter Try.func20, Try.ntmps20
  go_wp2_with fail
  refine (of_any A n c bs w hr (by omega) hA).mono ?_
  rintro e w1 ⟨p, rfl, hp, hr1, hb1⟩
  have hpl : p < w1.heap.size := by obtain ⟨_, _, _, h, _⟩ := hr1; exact h.lt
  have HI : Hid (AllL w p (bs, false) (allO (bs.length + 1) (bs, false)) (bs.length + 1) (.slice none 0 0) w1 (bs, false) []) := Lib.hid
    ⟨hr1, World.ownsRow_nil _ _ _ _, fun _ h => by simp at h, hb1, by cases allO (bs.length + 1) (bs, false) <;> simp, by simp, hpl, hp, by simp⟩
  clear hr1 hb1
  obtain ⟨tot, htot⟩ : ∃ x, allO (bs.length + 1) (bs, false) = x := ⟨_, rfl⟩
  have HTOT := Lib.hid htot
  rw [htot] at HI
  obtain ⟨G, hG⟩ : ∃ x, bs.length + 1 = x := ⟨_, rfl⟩
  have hGn : G ≤ n + 1 := by rw [← hG, HL.out]; exact Nat.le_refl _
  rw [hG] at HI
  clear htot hG
  go_wp2_with fail
  go_loopg [5] G (fun gk l wr => ∃ (A : Option Addr) (k c : Nat) (s : St) (L : List FR), l = .slice A k c ∧ gk ≤ G ∧ Hid (AllL w p (bs, false) tot gk (.slice A k c) wr s L ∧ Byt s.1))
  case atStart => exact ⟨none, 0, 0, _, _, rfl, Nat.le_refl _, Lib.hid ⟨HI.out, hby⟩⟩
  case round =>
    clear HI
    obtain ⟨Ak, k, ck, s, L, rfl, hgk, hat⟩ := hrel
    have hps := hat.out.1.ps
    have hlt := hat.out.1.lt
    have hpw := hat.out.1.pw
    have hbs := hat.out.1.bl.size
    go_wp2_with fail
    refine (read_any p _ _ s wr hat.out.1.rd (fun b hb => by omega) (by omega)).mono ?_
    intro e w2 hpost
    unfold ReadPost at hpost
    cases hro : readO s with
    | none =>
      rw [hro] at hpost
      obtain ⟨rfl, hk2⟩ := hpost
      have hz : tot = none := by
        rw [hat.out.1.eq]
        obtain ⟨g', rfl⟩ : ∃ g', gk = g' + 1 := ⟨gk - 1, by omega⟩
        simp [allO, hro]
      have HZ := Lib.hid hz
      have hB2 := hk2.below hat.out.1.bl (by omega) (fun j hj => by omega)
      obtain ⟨LZ, hLZ⟩ : ∃ L, frL (FN.zero 0) .nil .nil = L := ⟨_, rfl⟩
      have hLl : LZ.length = 19 := by rw [← hLZ]; rfl
      have hone : LZ.all (·.oneCell') = true := by rw [← hLZ]; rfl
      have hfv : frV (FN.zero 0) .nil .nil = .agg LZ.toArray := by rw [← hLZ]; rfl
      have HLl := Lib.hid hLl
      have HO := Lib.hid hone
      rw [hfv]
      clear hro hk2 hLZ hLl hone hfv hz
      go_wp2_with (first | ((with_reducible refine at_st (x := .tmp 6) ?_); refine st_top _ _ LZ (by rfl) _ (by rfl) (by simp) (by rfl) (by rfl) HLl.out HO.out ?_) | fail)
      go_ret2
      exact AllPost.no (HTOT.out.trans HZ.out) (hB2.alloc (by have := hB2.size; omega) _)
    | some x =>
      obtain ⟨m, ds, rs, s'⟩ := x
      rw [hro] at hpost
      obtain ⟨d, r, rfl, hf2, hr2, hk2⟩ := hpost
      simp only at hf2 hr2
      obtain ⟨y, rfl, rfl, rfl, rfl, rfl⟩ : ∃ y : FR, y.m = m ∧ y.d = d ∧ y.r = r ∧ y.ds = ds ∧ y.rs = rs := ⟨⟨m, d, r, ds, rs⟩, rfl, rfl, rfl, rfl, rfl⟩
      obtain ⟨_, _, _, q, q1, q2, q3⟩ := readO_eats s hat.out.2 y.m y.ds y.rs s' hro
      have hlen' : s'.1.length < s.1.length := by rw [q3, List.length_drop]; omega
      have hby' : Byt s'.1 := by rw [q3]; exact hat.out.2.drop q
      have heq : tot = if s'.1.length = 0 then some ((L ++ [y]).map FR.fd) else (allO (gk - 1) s').map ((L ++ [y]).map FR.fd ++ ·) := by
        rw [hat.out.1.eq]
        obtain ⟨g', rfl⟩ : ∃ g', gk = g' + 1 := ⟨gk - 1, by omega⟩
        simp only [allO, hro, Nat.add_sub_cancel]
        split
        · simp [FR.fd]
        · cases allO g' s' with
          | none => rfl
          | some t => simp [FR.fd]
      have hB2 := hk2.below hat.out.1.bl (by omega) (fun j hj => by omega)
      have hvb := hat.out.1.own.block_lt
      have O2 := hat.out.1.own.kept hk2 (fun i hi e => by have := (hvb i hi).1; omega)
      have F2 : ∀ x ∈ L, Fits w2 (fun b => p < b ∧ (Value.slice Ak k ck).ownBlock ≠ some b) x.m x.d x.r x.ds x.rs := fun x hx => (hat.out.1.ft x hx).kept hk2 (fun b hb e => by omega)
      have F2y : Fits w2 (fun b => p < b ∧ (Value.slice Ak k ck).ownBlock ≠ some b) y.m y.d y.r y.ds y.rs := hf2.mono (fun b _ hb => ⟨by omega, fun e => by have := (hvb b e).2; omega⟩)
      have hln := hat.out.1.ln
      have hs2 := hk2.size
      obtain ⟨LF, hLF⟩ : ∃ L, frL y.m y.d y.r = L := ⟨_, rfl⟩
      have hLl : LF.length = 19 := by rw [← hLF]; rfl
      have hone : LF.all (·.oneCell') = true := by rw [← hLF]; rfl
      have hfv : frV y.m y.d y.r = .agg LF.toArray := by rw [← hLF]; rfl
      have hbB : Below w2.heap.size w2 ((w2.alloc (.cells LF.toArray 31)).alloc (.cells LF.toArray 31)) := ((Below.refl _ _).alloc (Nat.le_refl _) _).alloc (by simp) _
      have O3 := O2.kept (Kept.of_below hbB (fun _ => False)) (fun _ _ h => h)
      have F3 := fun x hx => (F2 x hx).below hbB
      have F3y := F2y.below hbB
      have R3 := hr2.kept (Kept.of_below hbB (fun _ => False)) (fun h => h) (fun _ _ h => h)
      have B3 := hB2.trans (hbB.mono (by omega))
      have C3 : At ((w2.alloc (.cells LF.toArray 31)).alloc (.cells LF.toArray 31)) (w2.heap.size + 1) 31 (frL y.m y.d y.r) := by rw [hLF]; exact At.new_ _ _ _ (by simp)
      have A6 := At.new w2 31 LF
      have hs3 : ((w2.alloc (.cells LF.toArray 31)).alloc (.cells LF.toArray 31)).heap.size = w2.heap.size + 1 + 1 := by simp
      have HLl := Lib.hid hLl
      have HO := Lib.hid hone
      have HEQ := Lib.hid heq
      have HO3 := Lib.hid O3
      have HC3 := Lib.hid C3
      have HS3 := Lib.hid hs3
      rw [hfv]
      have hLn : L.length ≤ 100000000000 := by have := HL.out; simp only at hln; omega
      have hbs3 : p + 1 ≤ ((w2.alloc (.cells LF.toArray 31)).alloc (.cells LF.toArray 31)).heap.size := by omega
      have HBS := Lib.hid hbs3
      have HBY := Lib.hid hby'
      clear hro hk2 hLF hLl hone hfv hat q1 q2 q3 heq O2 F2 F2y O3 C3 hs3 hbs3 hby' hbB hf2 hr2
      go_wp2_with (first | ((with_reducible refine at_st (x := .tmp 6) ?_); refine st_top _ _ LF (by rfl) _ (by rfl) (by simp) (by rfl) (by rfl) HLl.out HO.out ?_) | ((with_reducible refine at_ld (x := .tmp 6) ?_); refine ld_fr_g _ _ (by rfl) (by rfl) A6 HLl.out ?_) | (refine wpList_bs1 LF (w2.heap.size + 1) (by simp) (by rfl) HLl.out ?_) | (at_builtin; refine wpList_append_f rfl (.tmp 17) (.tmp 19) rfl (p + 1) _ L rfl HO3.out (w2.heap.size + 1) 1 y (by rfl) HC3.out hLn HBS.out ?_; intro v7 w7 hown7 hgr7 hv7; obtain ⟨A7, c7, rfl, hc7, hm7⟩ := hown7.shape (L.length + 1) (by simp)))
      have K7 := Kept.of_grown (S := fun k' => (Value.slice Ak k ck).ownBlock = some k') hgr7 (fun k hk => .inl hk)
      have hvb3 : ∀ k', (Value.slice Ak k ck).ownBlock = some k' → p + 1 ≤ k' := fun k' hk' => (HO3.out.block_lt k' hk').1
      have R7 := R3.kept K7 (fun hk => by have := hvb3 _ hk; omega) (fun b hb hk => by have := hvb3 _ hk; omega)
      have B7 : Below w.heap.size w w7 := K7.below B3 (by have := B3.size; omega) (fun j hj => by have := hvb3 j hj; omega)
      have F7 : ∀ x ∈ L ++ [y], Fits w7 (fun b => p < b ∧ (Value.slice A7 (L.length + 1) c7).ownBlock ≠ some b) x.m x.d x.r x.ds x.rs := fun x hx => by
        have hx3 : Fits ((w2.alloc (.cells LF.toArray 31)).alloc (.cells LF.toArray 31)) (fun b => p < b ∧ (Value.slice Ak k ck).ownBlock ≠ some b) x.m x.d x.r x.ds x.rs := by
          rcases List.mem_append.1 hx with hx | hx
          · exact F3 x hx
          · simp at hx; subst hx; exact F3y
        have hx4 : Fits ((w2.alloc (.cells LF.toArray 31)).alloc (.cells LF.toArray 31)) (fun b => (p < b ∧ (Value.slice Ak k ck).ownBlock ≠ some b) ∧ (Value.slice A7 (L.length + 1) c7).ownBlock ≠ some b) x.m x.d x.r x.ds x.rs := hx3.mono (fun b hb hP => ⟨hP, fun e => by
          rcases hv7 with h | h
          · rw [h] at e; exact hP.2 e
          · rw [h] at e; injection e with e; omega⟩)
        exact (hx4.kept K7 (fun b hb e => hb.1.2 e)).mono (fun b _ hb => ⟨hb.1.1, hb.2⟩)
      have hs7 : p < w7.heap.size := by have := K7.size; have := HBS.out; omega
      have HR7 := Lib.hid R7
      have HB7 := Lib.hid B7
      have HF7 := Lib.hid F7
      have HO7 := Lib.hid hown7
      clear R7 B7 F7 hown7 K7 hgr7 hv7 R3 B3 F3 F3y A6 hB2
      refine (left_any p _ _ s' _ HR7.out).mono ?_
      rintro e w8 ⟨rfl, rfl⟩
      rcases Nat.eq_zero_or_pos s'.1.length with hz | hz
      · have HEQ2 : Hid (tot = some ((L ++ [y]).map FR.fd)) := Lib.hid (by rw [HEQ.out, if_pos hz])
        rw [hz]
        clear hz
        go_wp2_with fail
        go_ret2
        refine AllPost.yes (HTOT.out.trans HEQ2.out) ((HO7.out.frsP (by simp) (fun b hb => ?_) (fun x hx => (HF7.out x hx).mono (P' := fun b => p < b) (fun b _ hb => hb.1))).mono (P' := fun b => w.heap.size ≤ b) (fun b _ hb => by omega)) hc7 hm7 HB7.out
        omega
      · have HEQ2 : Hid (tot = (allO (gk - 1) s').map ((L ++ [y]).map FR.fd ++ ·)) := Lib.hid (by rw [HEQ.out, if_neg (by omega)])
        obtain ⟨N', hN'⟩ : ∃ x, s'.1.length = x := ⟨_, rfl⟩
        have hne : ((N' : Int) == 0) = false := beq_eq_false_iff_ne.2 (by omega)
        have HN : Hid (AllL w p (bs, false) tot (gk - 1) (.slice A7 (L.length + 1) c7) w7 s' (L ++ [y])) := Lib.hid
          ⟨HR7.out, HO7.out, HF7.out, HB7.out, HEQ2.out, by omega, hs7, hpw, by rw [List.length_append]; simp only [List.length_cons, List.length_nil]; omega⟩
        rw [hN']
        clear hN' hz
        go_wp2_with fail
        go_roundg (gk - 1)
        case measure => omega
        case rel => exact ⟨_, _, _, s', _, rfl, by omega, Lib.hid ⟨HN.out, HBY.out⟩⟩
end
section
set_option linter.unusedVariables false
open Go.RowKit
theorem rsC_cells {w : World} {P : Nat → Prop} {A : Option Addr} {n : Nat} {rs : RS} (h : RgP w P A n rs) (ad : Addr) (hA : A = some ad) (j : Nat) (u : Value) (hu : (rsC rs)[j]? = some u) : w.cell? (ad.add j) = some u := by
  subst hA
  have hj := (List.getElem?_eq_some_iff.1 hu).1
  rw [rsC_len] at hj
  have hn := h.1
  obtain ⟨b, off, e, _, _, hc⟩ := h.2.2 (by omega)
  injection e with e
  subst e
  have hi : j / 2 < rs.length := by omega
  have hx : rs[j / 2]? = some rs[j / 2] := List.getElem?_eq_getElem hi
  have c := hc (j / 2) _ hx
  have g := rsC_get rs (j / 2) _ hx
  rw [addr_add]
  rcases Nat.mod_two_eq_zero_or_one j with h0 | h0
  · have ej : j = j / 2 * 2 := by omega
    rw [ej, g.1] at hu
    rw [ej, c.1]; exact hu
  · have ej : j = j / 2 * 2 + 1 := by omega
    rw [ej, g.2] at hu
    rw [ej, ← Nat.add_assoc, c.2]; exact hu
theorem wpList_append_rs {w : World} {ops : Array Oper} {rest : List Oper} {o : Oper} {a : Act} {Q : Exit → Act → World → Prop} (hgd : o.guard = none) (s x : Operand)
    (ho : o.op = .call { callee := .builtin .append, args := #[s, x], argTypes := #[27, 27] }) (base : Nat) (v : Value) (hs : a.eval s = v) (hown : OwnR w base v []) (P : Nat → Prop) (ad : Addr) (n c : Nat) (rs : RS)
    (hx : a.eval x = .slice (some ad) n c) (hr : RgP w P (some ad) n rs) (hl : n ≤ 1000000) (hbase : base ≤ w.heap.size)
    (h : ∀ v' w', OwnR w' base v' rs → w.grownBy w' v.ownBlock → (v'.ownBlock = v.ownBlock ∨ v'.ownBlock = some w.heap.size) → wpList Try.prog ops Q rest (a.put o.dst v') w') : wpList Try.prog ops Q (o :: rest) a w := by
  have hI := rg_info
  cases hq : Try.prog.info? 60 with
  | none => rw [hq] at hI; cases hI
  | some i =>
    rw [hq] at hI
    simp only [Option.map_some, Option.some.injEq, Prod.mk.injEq] at hI
    refine wpList_plain hgd fun K hK => ?_
    obtain ⟨v', w', k1, k2, k3, _, k5⟩ := run_append_own_at (P := Try.prog) (w := w) base 27 o.type 60 i _ 2 16 Try.underlying27 hq hI.1 hI.2.1 hI.2.2 rfl (by omega) v 0 [] hown.1 ad n c (rsC rs) (by rw [rsC_len, hr.1]) (rsC_cells hr ad rfl) (rsC_one rs) (by unfold maxLen; omega) (by omega) hbase
    unfold Oper.wp
    simp [execOp, ho, resolve, invoke, builtin, hs, hx, k1, Result.andThen]
    refine hK _ _ (h v' w' ⟨?_, hr.2.1⟩ k3 k5)
    rw [Nat.zero_add, List.nil_append] at k2
    rw [hr.1]; exact k2
set_option maxRecDepth 100000 in
theorem sclone_any (P : Nat → Prop) (r : Sl) (rs : RS) (w : World) (hr : InR w P r rs) (hn : r.n ≤ 1000000) :
    Calls Try.prog 50 #[.slice r.A r.n r.c] w fun e w' => ∃ v, e = .returned v ∧ OwnR w' w.heap.size v rs ∧ Below w.heap.size w w' := by
  obtain ⟨A, n, c⟩ := r
  obtain ⟨hrd, hnc, hcm, hA⟩ := hr
  simp only at hrd hnc hcm hA hn ⊢
  cases A with
  | none =>
    obtain rfl := hA rfl
    obtain rfl : n = 0 := by omega
    obtain rfl : rs = [] := List.eq_nil_of_length_eq_zero hrd.1
    clear hA
    have he := fun W : World => Lib.run_eql_slice_nil (P := Try.prog) W 27 60 none 0 0 0 0 Try.underlying27
    have hown : OwnR w w.heap.size (.slice none 0 0) [] := ⟨⟨rfl, .inl ⟨rfl, rfl⟩⟩, fun r h => by cases h⟩
    go_enter Try.func50, Try.ntmps50
    go_wp2
    go_ret
    exact ⟨_, rfl, hown, Below.refl _ _⟩
  | some ad =>
    clear hA
    have he := fun W : World => Lib.run_eql_slice_nil (P := Try.prog) W 27 60 (some ad) n c 0 0 Try.underlying27
    have hb1 : Below w.heap.size w (w.alloc (.cells #[] 60)) := (Below.refl _ _).alloc (Nat.le_refl _) _
    have hr1 := hrd.kept (S := fun _ => False) (Kept.of_below hb1 (fun _ => False)) (fun _ _ h => h)
    have hown : OwnR (w.alloc (.cells #[] 60)) w.heap.size (.slice (some ⟨w.heap.size, 0, none⟩) 0 0) [] := ⟨⟨rfl, .inr ⟨_, 0, _, rfl, Nat.le_refl _, heap_alloc_new w _, Nat.le_refl _, by unfold maxLen; omega, rfl, rfl⟩⟩, fun r h => by cases h⟩
    have hs1 : w.heap.size ≤ (w.alloc (.cells #[] 60)).heap.size := by simp
    go_enter Try.func50, Try.ntmps50
    go_wp2_with (at_builtin; refine wpList_append_rs rfl (.tmp 5) (.tmp 6) rfl w.heap.size _ rfl hown P ad n c rs rfl hr1 hn hs1 ?_; intro v2 w2 hown2 hg2 hv2; have hb2 := hb1.grown hg2 hs1 (fun k hk => (hown.block_lt k hk).1))
    go_ret
    exact ⟨_, rfl, hown2, hb2⟩
end
section
set_option linter.unusedVariables false
set_option linter.unusedSimpArgs false
open Go.RowKit
def CopyPost (a : FN) (da : List Int) (ra : RS) (w : World) (e : Ending) (w' : World) : Prop :=
  ∃ d' r', e = .returned (frV a d' r') ∧ Fits w' (fun b => w.heap.size ≤ b) a d' r' da ra ∧ Below w.heap.size w w'
/-- .. and the bytes are the call's own. -/
def CopyPost2 (a : FN) (da : List Int) (ra : RS) (w : World) (e : Ending) (w' : World) : Prop :=
  ∃ d' r', e = .returned (frV a d' r') ∧ Fits w' (fun b => w.heap.size ≤ b) a d' r' da ra ∧ Below w.heap.size w w' ∧ Own w' w.heap.size 5 (.slice d'.A d'.n d'.c) da
theorem frL_sets (a : FN) (d r d' r' : Sl) : ((frL a d r).set 3 (.slice d'.A d'.n d'.c)).set 10 (.slice r'.A r'.n r'.c) = frL a d' r' := rfl
set_option maxRecDepth 100000 in
set_option maxHeartbeats 2000000 in
theorem copy2_any (P : Nat → Prop) (m : FN) (d0 r0 : Sl) (ds : List Int) (rs : RS) (w : World) (hf : Fits w P m d0 r0 ds rs) (hld' : (askDs m.k ds).length ≤ 100000) (hlr' : (askRs m.k rs).length ≤ 100000) :
    Calls Try.prog 25 #[frV m d0 r0] w (CopyPost2 (askN m) (askDs m.k ds) (askRs m.k rs) w) := by
  have hak := hf.ask
  have hC := asked_any m d0 r0
  unfold AskedPost at hC
  obtain ⟨a, ha⟩ : ∃ x, askN m = x := ⟨_, rfl⟩
  obtain ⟨d, hd⟩ : ∃ x, askD m.k d0 = x := ⟨_, rfl⟩
  obtain ⟨r, hr⟩ : ∃ x, askR m.k r0 = x := ⟨_, rfl⟩
  obtain ⟨da, hda⟩ : ∃ x, askDs m.k ds = x := ⟨_, rfl⟩
  obtain ⟨ra, hra⟩ : ∃ x, askRs m.k rs = x := ⟨_, rfl⟩
  obtain ⟨ka0, hka0⟩ : ∃ x, knownB m.k = x := ⟨_, rfl⟩
  rw [ha, hd, hr, hda, hra] at hak
  rw [ha, hd, hr, hka0] at hC
  rw [hda] at hld'
  rw [hra] at hlr'
  rw [ha, hda, hra]
  clear ha hd hr hda hra hka0 hf
  have hdn : d.n ≤ 100000 := by rw [← hak.dt.rd.len]; exact hld'
  have hrn : r.n ≤ 100000 := by rw [← hak.rg.rd.1]; exact hlr'
  obtain ⟨M, hM⟩ : ∃ L, frL m d0 r0 = L := ⟨_, rfl⟩
  have hMl : M.length = 19 := by rw [← hM]; rfl
  have hMv : frV m d0 r0 = .agg M.toArray := by rw [← hM]; rfl
  rw [hMv] at hC ⊢
  clear hM hMv
  obtain ⟨dA, dn, dc⟩ := d
  obtain ⟨rA, rn, rc⟩ := r
  simp only at hdn hrn
  have hsets := fun (d' r' : Sl) => frL_sets a ⟨dA, dn, dc⟩ ⟨rA, rn, rc⟩ d' r'
  obtain ⟨L, hL⟩ : ∃ L, frL a ⟨dA, dn, dc⟩ ⟨rA, rn, rc⟩ = L := ⟨_, rfl⟩
  have hLl : L.length = 19 := by rw [← hL]; rfl
  have hLo : L.all (·.oneCell') = true := by rw [← hL]; rfl
  have hL3 : L[3]? = some (.slice dA dn dc) := by rw [← hL]; rfl
  have hL10 : L[10]? = some (.slice rA rn rc) := by rw [← hL]; rfl
  have hLv : frV a ⟨dA, dn, dc⟩ ⟨rA, rn, rc⟩ = .agg L.toArray := by rw [← hL]; rfl
  rw [hLv] at hC
  rw [hL] at hsets
  clear hL hLv
  have HC := Lib.hid hC
  have HAK := Lib.hid hak
  have HMl := Lib.hid hMl
  have HLl := Lib.hid hLl
  have HLO := Lib.hid hLo
  have HSETS := Lib.hid hsets
  have HL3 := Lib.hid hL3
  have HL10 := Lib.hid hL10
  clear hC hak hMl hLl hLo hsets hL3 hL10 hld' hlr'
  have hP0 := fun o => (At.new w 31 M).alloc o
  go_enter Try.func25, Try.ntmps25
  go_wp2_with (first | ((with_reducible refine at_ld ?_); refine ld_fr_g _ _ (by rfl) (by rfl) (hP0 _) HMl.out ?_) | fail)
  refine (HC.out _).mono ?_
  rintro e w1 ⟨rfl, hb1⟩
  have hP1 := (hP0 _).below hb1 (hP0 _).lt
  have hQ1 := (At.new_ _ _ _ (by simp : w.heap.size + 1 = (w.alloc (.cells M.toArray 31)).heap.size)).below hb1 (by simp)
  have hB1 : Below w.heap.size w w1 := (((Below.refl _ w).alloc (Nat.le_refl _) (.cells M.toArray 31)).alloc (by simp) _).trans (hb1.mono (by simp; omega))
  obtain ⟨Z, hQ1, hZl⟩ : ∃ Z : List Value, At w1 (w.heap.size + 1) 31 Z ∧ Z.length = 19 := ⟨_, hQ1, rfl⟩
  have HP1 := Lib.hid hP1
  have HQ1 := Lib.hid hQ1
  have HB1 := Lib.hid hB1
  have HZl := Lib.hid hZl
  clear hb1 hP0 hP1 hQ1 hB1 hZl
  go_wp2_with (first | ((with_reducible refine at_st ?_); refine st_at _ _ _ (by rfl) (by rfl) HP1.out HMl.out HLl.out HLO.out ?_; intro w2 hP2 hK2; have e3 := (hP2.cell 3).trans HL3.out) | fail)
  have hB2 : Below w.heap.size w w2 := hK2.below HB1.out (by have := HP1.out.lt; omega) (fun j hj => by omega)
  have hQ2 := HQ1.out.kept hK2 (by omega)
  have hF2 := HAK.out.below hB2
  have hs2 : w.heap.size ≤ w2.heap.size := hB2.size
  refine (clone_any dA dn dc da _ hF2.dt.rd.1 (by omega) hF2.dt.nil).mono ?_
  rintro e w3 ⟨v3, rfl, hown3, hb3⟩
  obtain ⟨A3, n3, c3, rfl⟩ := hown3.shape
  have hP3 := hP2.below hb3 hP2.lt
  have hQ3 := hQ2.below hb3 hQ2.lt
  have hB3 := hB2.trans (hb3.mono hs2)
  have hp2 := hP2.lt
  have hq2 := hQ2.lt
  have e3' := (hP3.cell 3).trans HL3.out
  have f3 := hP3.frozen 3
  have e10 := (hP3.cell 10).trans HL10.out
  have hP4 := hP3.set 3 (.slice A3 n3 c3)
  have e10' : (w3.setCell ⟨w.heap.size, 3, none⟩ (.slice A3 n3 c3)).cell? ⟨w.heap.size, 10, none⟩ = some (.slice rA rn rc) := by rw [hP4.cell 10, List.getElem?_set_ne (by omega)]; exact HL10.out
  have hK4 : Kept (· = w.heap.size) w3 (w3.setCell ⟨w.heap.size, 3, none⟩ (.slice A3 n3 c3)) := (Kept.refl _ _).setAt _ _
  have hQ4 := hQ3.kept hK4 (by omega)
  have hB4 := hK4.below hB3 hB3.size (fun j hj => by omega)
  have hF4 := HAK.out.below hB4
  have hs4 := hK4.size
  have hs3 := hb3.size
  have hown4 := hown3.keep (fun k hk => hK4.block k (hown3.block_lt k hk).2 (by have := (hown3.block_lt k hk).1; omega))
  clear hP2 hQ2 hK2 hF2 hB2 hQ3 hB3 hown3 hb3 e3
  go_wp2_with fail
  obtain ⟨w4, hw4⟩ : ∃ x, w3.setCell ⟨w.heap.size, 3, none⟩ (.slice A3 n3 c3) = x := ⟨_, rfl⟩
  rw [hw4] at hP4 e10' hK4 hQ4 hB4 hF4 hs4 hown4 ⊢
  clear hw4
  refine (sclone_any _ ⟨rA, rn, rc⟩ ra _ hF4.rg (by simp only; omega)).mono ?_
  rintro e w5 ⟨v5, rfl, hown5, hb5⟩
  obtain ⟨A5, n5, c5, rfl⟩ := hown5.shape
  have hP5 := hP4.below hb5 hP4.lt
  have hQ5 := hQ4.below hb5 hQ4.lt
  have hB5 := hB4.trans (hb5.mono hB4.size)
  have hs5 := hb5.size
  have hown4' := hown4.below hb5 (Nat.le_refl _)
  have e10'' : w5.cell? ⟨w.heap.size, 10, none⟩ = some (.slice rA rn rc) := by rw [hP5.cell 10, List.getElem?_set_ne (by omega)]; exact HL10.out
  have f10 := hP5.frozen 10
  have hP6 := hP5.set 10 (.slice A5 n5 c5)
  have hK6 : Kept (· = w.heap.size) w5 (w5.setCell ⟨w.heap.size, 10, none⟩ (.slice A5 n5 c5)) := (Kept.refl _ _).setAt _ _
  have hQ6 := hQ5.kept hK6 (by omega)
  rw [HSETS.out ⟨A3, n3, c3⟩ ⟨A5, n5, c5⟩] at hP6
  obtain ⟨L2, hL2⟩ : ∃ x, frL a ⟨A3, n3, c3⟩ ⟨A5, n5, c5⟩ = x := ⟨_, rfl⟩
  have hL2l : L2.length = 19 := by rw [← hL2]; rfl
  have hL2o : L2.all (·.oneCell') = true := by rw [← hL2]; rfl
  have hL2v : frV a ⟨A3, n3, c3⟩ ⟨A5, n5, c5⟩ = .agg L2.toArray := by rw [← hL2]; rfl
  rw [hL2] at hP6
  clear hL2
  have HL2v := Lib.hid hL2v
  have HL2l := Lib.hid hL2l
  have HL2o := Lib.hid hL2o
  clear hL2v hL2l hL2o
  go_wp2_with (first | ((with_reducible refine at_st ?_); refine st_at _ _ _ (by rfl) (by rfl) hQ6 HZl.out HL2l.out HL2o.out ?_; intro w7 hQ7 hK7) | ((with_reducible refine at_ld ?_); refine ld_fr_g _ _ (by rfl) (by rfl) hP6 HL2l.out ?_) | fail)
  refine bodyPost_ret (results_cell 2 31 (by rfl) _ 31 _ _ (by rfl) hQ7 Try.underlying31 rfl (by rw [HL2l.out]; exact fr_info)) rfl ?_
  have hl4 := hP4.lt
  have hq4 := hQ4.lt
  have hB6 := hK6.below hB5 hB5.size (fun j hj => by omega)
  have hB7 := hK7.below hB6 hB6.size (fun j hj => by omega)
  have a6 := hown4'.keep (fun k hk => hK6.block k (hown4'.block_lt k hk).2 (by have := (hown4'.block_lt k hk).1; omega))
  have a7 := a6.keep (fun k hk => hK7.block k (a6.block_lt k hk).2 (by have := (a6.block_lt k hk).1; omega))
  have b6 := hown5.keep (fun k hk => hK6.block k (hown5.block_lt k hk).2 (by have := (hown5.block_lt k hk).1; omega))
  have b7 := b6.keep (fun k hk => hK7.block k (b6.block_lt k hk).2 (by have := (b6.block_lt k hk).1; omega))
  have hd7 := a7.inD a7.len_eq
  obtain ⟨A6, c6, e6, hr7⟩ := b7.open_ _ rfl
  injection e6 with e61 e62 e63
  subst e61
  subst e63
  have hn5 : n5 = ra.length := e62
  refine ⟨⟨A3, n3, c3⟩, ⟨A5, n5, c5⟩, by rw [HL2v.out], ⟨HAK.out.wf, ⟨hd7.rd.mono (fun b _ hb => Nat.le_trans hs2 hb), hd7.lc, hd7.cm, hd7.nil⟩, ?_⟩, hB7, a7.base_ hs2⟩
  subst hn5
  exact ⟨hr7.rd.mono (fun b _ hb => by have := (b7.block_lt b hb).1; omega), hr7.lc, hr7.cm, hr7.nil⟩
theorem copy_any (P : Nat → Prop) (m : FN) (d0 r0 : Sl) (ds : List Int) (rs : RS) (w : World) (hf : Fits w P m d0 r0 ds rs) (hld : ds.length ≤ 100000) (hlr : rs.length ≤ 100000) :
    Calls Try.prog 25 #[frV m d0 r0] w (CopyPost (askN m) (askDs m.k ds) (askRs m.k rs) w) :=
  (copy2_any P m d0 r0 ds rs w hf (by unfold askDs; split <;> simp_all) (by unfold askRs; split <;> simp_all)).mono fun e w' ⟨d', r', h1, h2, h3, _⟩ => ⟨d', r', h1, h2, h3⟩
end
section
set_option linter.unusedVariables false
set_option linter.unusedSimpArgs false
open Go.RowKit
theorem fsB_same (m n : FN) (ds ds' : List Int) (rs rs' : RS) : fsB (askN m) (askN n) (askDs m.k ds) (askDs n.k ds') (askRs m.k rs) (askRs n.k rs') = sameB m n ds ds' rs rs' := by
  by_cases hk : m.k = n.k
  · obtain ⟨k, s, o, fin, l, c, f, q, y, c0, c1, c2, c3, c4, c5, c6, c7⟩ := m
    obtain ⟨k', s', o', fin', l', c', f', q', y', c0', c1', c2', c3', c4', c5', c6', c7'⟩ := n
    simp only at hk
    subst hk
    rcases kind_cases k with rfl | rfl | rfl | rfl | rfl | rfl | rfl | rfl | rfl | rfl | rfl | rfl | rfl | rfl | rfl | rfl | rfl | hx
    all_goals first
      | (simp [fsB, sameB, askN, cidB, numB, askDs, askRs, FN.zero]; done)
      | (simp [fsB, sameB, askN, cidB, numB, askDs, askRs, FN.zero]; ac_rfl)
      | (simp only [beq_eq_false_iff_ne] at hx
         obtain ⟨e0, e1, e30, e2, e4, e5, e6, e8, e16, e18, e20, e17, e24, e25, e26, e27, e28⟩ := hx
         simp [fsB, sameB, askN, cidB, numB, askDs, askRs, FN.zero, e0, e1, e30, e2, e4, e5, e6, e8, e16, e18, e20, e17, e24, e25, e26, e27, e28]; done)
  · have h1 : (m.k == n.k) = false := by simpa using hk
    unfold fsB sameB
    rw [askN_k, askN_k, h1, Bool.false_and, Bool.false_and]
theorem fsame2_any (P : Nat → Prop) (m n : FN) (d r e t : Sl) (ds ds' : List Int) (rs rs' : RS) (w : World) (hf : Fits w P m d r ds rs) (hf' : Fits w P n e t ds' rs') :
    Calls Try.prog 9 #[frV m d r, frV n e t] w (FrPost (.bool (sameB m n ds ds' rs rs')) w) := by
  rw [← fsB_same]
  exact fsame_any P m n d r e t ds ds' rs rs' w hf hf'
end
section
set_option linter.unusedVariables false
open Go.RowKit Go.ChangeShapes Go.WideShapes Go.Deep
/-- Eight bytes. -/
structure N8 where
  a0 : Int
  a1 : Int
  a2 : Int
  a3 : Int
  a4 : Int
  a5 : Int
  a6 : Int
  a7 : Int
def N8.l (m : N8) : List Int := [m.a0, m.a1, m.a2, m.a3, m.a4, m.a5, m.a6, m.a7]
def N8.zero : N8 := ⟨0, 0, 0, 0, 0, 0, 0, 0⟩
def N8.of (l : List Int) : N8 := ⟨l.getD 0 0, l.getD 1 0, l.getD 2 0, l.getD 3 0, l.getD 4 0, l.getD 5 0, l.getD 6 0, l.getD 7 0⟩
def N8.v (m : N8) : Value := .agg #[.int .u8 m.a0, .int .u8 m.a1, .int .u8 m.a2, .int .u8 m.a3, .int .u8 m.a4, .int .u8 m.a5, .int .u8 m.a6, .int .u8 m.a7]
theorem N8.ext_ {x y : N8} (h : x.l = y.l) : x = y := by
  obtain ⟨a, b, c, d, e, f, g, i⟩ := x
  obtain ⟨a', b', c', d', e', f', g', i'⟩ := y
  simp only [N8.l, List.cons.injEq] at h
  obtain ⟨rfl, rfl, rfl, rfl, rfl, rfl, rfl, rfl, _⟩ := h
  rfl
theorem N8.of_l (m : N8) : N8.of m.l = m := rfl
theorem N8.l_of (l : List Int) (h : l.length = 8) : (N8.of l).l = l := by
  match l, h with
  | [a, b, c, d, e, f, g, i], _ => rfl
def n8B (m m' : N8) : Bool := m.a0 == m'.a0 && (m.a1 == m'.a1 && (m.a2 == m'.a2 && (m.a3 == m'.a3 && (m.a4 == m'.a4 && (m.a5 == m'.a5 && (m.a6 == m'.a6 && m.a7 == m'.a7))))))
theorem n8B_eq (m m' : N8) : n8B m m' = true ↔ m = m' := by
  obtain ⟨a, b, c, d, e, f, g, i⟩ := m
  obtain ⟨a', b', c', d', e', f', g', i'⟩ := m'
  simp [n8B]
theorem n8B_refl (m : N8) : n8B m m = true := (n8B_eq m m).2 rfl
theorem run_n8 (W : World) (m m' : N8) : (Op.equalIn 10000 29 m.v m'.v).run Try.prog W = .ok (n8B m m') W := by
  have hp : Try.prog.plainKey 5 = true := by kernel_rfl
  have hu : Try.prog.underlying 5 = some (.int .u8) := Try.underlying5
  have hc : Try.prog.cellsOf 5 = 1 := by kernel_rfl
  obtain ⟨i, hi⟩ : ∃ i, Try.prog.info? 5 = some i := by
    cases h : Try.prog.info? 5 with
    | some i => exact ⟨i, rfl⟩
    | none => exact absurd (show (Try.prog.info? 5).isSome = true by kernel_rfl) (by rw [h]; simp)
  unfold N8.v
  rw [show (10000 : Nat) = 9999 + 1 from rfl, run_equalIn_array W 9999 _ _ (n := 8) Try.underlying29 hi, hc, show (9999 : Nat) = 9998 + 1 from rfl]
  rw [show List.range 8 = [0, 1, 2, 3, 4, 5, 6, 7] from rfl]
  unfold n8B
  rw [step_items W _ .u8 hp hu 9998 1 _ _ 0 _ m.a0 m'.a0 rfl rfl]
  cases (m.a0 == m'.a0) <;> simp only [Bool.false_and, Bool.true_and, if_true, Bool.false_eq_true, if_false]
  rw [step_items W _ .u8 hp hu 9998 1 _ _ 1 _ m.a1 m'.a1 rfl rfl]
  cases (m.a1 == m'.a1) <;> simp only [Bool.false_and, Bool.true_and, if_true, Bool.false_eq_true, if_false]
  rw [step_items W _ .u8 hp hu 9998 1 _ _ 2 _ m.a2 m'.a2 rfl rfl]
  cases (m.a2 == m'.a2) <;> simp only [Bool.false_and, Bool.true_and, if_true, Bool.false_eq_true, if_false]
  rw [step_items W _ .u8 hp hu 9998 1 _ _ 3 _ m.a3 m'.a3 rfl rfl]
  cases (m.a3 == m'.a3) <;> simp only [Bool.false_and, Bool.true_and, if_true, Bool.false_eq_true, if_false]
  rw [step_items W _ .u8 hp hu 9998 1 _ _ 4 _ m.a4 m'.a4 rfl rfl]
  cases (m.a4 == m'.a4) <;> simp only [Bool.false_and, Bool.true_and, if_true, Bool.false_eq_true, if_false]
  rw [step_items W _ .u8 hp hu 9998 1 _ _ 5 _ m.a5 m'.a5 rfl rfl]
  cases (m.a5 == m'.a5) <;> simp only [Bool.false_and, Bool.true_and, if_true, Bool.false_eq_true, if_false]
  rw [step_items W _ .u8 hp hu 9998 1 _ _ 6 _ m.a6 m'.a6 rfl rfl]
  cases (m.a6 == m'.a6) <;> simp only [Bool.false_and, Bool.true_and, if_true, Bool.false_eq_true, if_false]
  rw [step_items W _ .u8 hp hu 9998 1 _ _ 7 _ m.a7 m'.a7 rfl rfl]
  cases (m.a7 == m'.a7) <;> simp [Op.eqItems]
instance : DecidableEq N8 := fun x y => if h : x.l = y.l then isTrue (N8.ext_ h) else isFalse (fun e => h (by rw [e]))
theorem N8.v_l (m : N8) : m.v = .agg (m.l.map (Value.int .u8)).toArray := rfl
section
variable {P : Program} {ops : Array Oper} {rest : List Oper} {a : Act} {w : World} {Q : Exit → Act → World → Prop} {dst : Option Tmp} {x y : Operand} {ty t : TypeId} {pos : String} {after : Array Edge}
/-- The store of some cells within a block. -/
theorem wpList_store_sub (p o : Nat) (T : TypeId) (l l' vs : List Value) (hx : a.eval x = .pointer (some ⟨p, o, none⟩)) (hy : a.eval y = .agg vs.toArray) (hA : At w p T l) (hl : o + vs.length ≤ l.length)
    (hi : (P.info? ty).map (·.size) = some vs.length) (h1 : vs.all (·.oneCell') = true) (hres : setFrom l o vs = l') (h : ∀ w', At w' p T l' → Kept (· = p) w w' → wpList P ops Q rest (a.put dst undef) w') :
    wpList P ops Q (⟨dst, .store ty x y, t, pos, after, none⟩ :: rest) a w := by
  refine wpList_store_mid rfl ty x y rfl p o vs.toArray hx hy (fun j hj => ?_) (by simpa using hi) (by simpa using h1) ?_
  · simp at hj
    rw [hA.cell, hA.frozen]
    simp
    omega
  · have := At.setFrom vs l o w hA
    rw [hres] at this
    exact h _ (by simpa using this) (by simpa using Kept.setCells (S := (· = p)) rfl vs o w (Kept.refl _ _))
end
section
variable {P : Program} {ops : Array Oper} {rest : List Oper} {a : Act} {w : World} {Q : Exit → Act → World → Prop} {dst : Option Tmp} {x y : Operand} {ty t : TypeId} {pos : String} {after : Array Edge}
theorem wpList_load_off (p off : Nat) (l : List Value) (d : TypeDesc) (hx : a.eval x = .pointer (some ⟨p, off, none⟩)) (hA : w.rangeAt p off l) (hu : P.underlying ty = some d) (hd : d.isRow = true)
    (hi : (P.info? ty).map (·.size) = some l.length) (h : wpList P ops Q rest (a.put dst (.agg l.toArray)) w) : wpList P ops Q (⟨dst, .load ty x, t, pos, after, none⟩ :: rest) a w :=
  wpList_load_mid rfl ty x rfl p off hx l d hA hu hd hi h
end
section
variable {H : Type} {enc : TypeId × Value → H} {w : World}
theorem cid_of_trod {fuel : Nat} {cs : List Value} {x : DataW H × List MemPlace} (h : DataW.trod enc Try.prog w 0 (fun _ => true) true fuel 29 cs = some x) (hl : cs.length = 8) :
    ∃ v : N8, cs = v.l.map (Value.int .u8) ∧ Byt v.l := by
  have c5 : Try.prog.cellsOf 5 = 1 := by kernel_rfl
  obtain ⟨xs, m, _, _, _, hxl, hf⟩ := DataW.trod_array Try.underlying29 h
  rw [c5] at hf
  match cs, hl with
  | [u0, u1, u2, u3, u4, u5, u6, u7], _ =>
    match xs, hxl with
    | [x0, x1, x2, x3, x4, x5, x6, x7], _ =>
      have h0 : DataW.trod enc Try.prog w 0 (fun _ => true) true m 5 [u0] = some x0 := hf 0 (by decide)
      have h1 : DataW.trod enc Try.prog w 0 (fun _ => true) true m 5 [u1] = some x1 := hf 1 (by decide)
      have h2 : DataW.trod enc Try.prog w 0 (fun _ => true) true m 5 [u2] = some x2 := hf 2 (by decide)
      have h3 : DataW.trod enc Try.prog w 0 (fun _ => true) true m 5 [u3] = some x3 := hf 3 (by decide)
      have h4 : DataW.trod enc Try.prog w 0 (fun _ => true) true m 5 [u4] = some x4 := hf 4 (by decide)
      have h5 : DataW.trod enc Try.prog w 0 (fun _ => true) true m 5 [u5] = some x5 := hf 5 (by decide)
      have h6 : DataW.trod enc Try.prog w 0 (fun _ => true) true m 5 [u6] = some x6 := hf 6 (by decide)
      have h7 : DataW.trod enc Try.prog w 0 (fun _ => true) true m 5 [u7] = some x7 := hf 7 (by decide)
      obtain ⟨k0, e0, _, w0⟩ := DataW.trod_int Try.underlying5 h0
      obtain ⟨k1, e1, _, w1⟩ := DataW.trod_int Try.underlying5 h1
      obtain ⟨k2, e2, _, w2⟩ := DataW.trod_int Try.underlying5 h2
      obtain ⟨k3, e3, _, w3⟩ := DataW.trod_int Try.underlying5 h3
      obtain ⟨k4, e4, _, w4⟩ := DataW.trod_int Try.underlying5 h4
      obtain ⟨k5, e5, _, w5⟩ := DataW.trod_int Try.underlying5 h5
      obtain ⟨k6, e6, _, w6⟩ := DataW.trod_int Try.underlying5 h6
      obtain ⟨k7, e7, _, w7⟩ := DataW.trod_int Try.underlying5 h7
      obtain rfl : u0 = .int .u8 k0 := by simpa using e0
      obtain rfl : u1 = .int .u8 k1 := by simpa using e1
      obtain rfl : u2 = .int .u8 k2 := by simpa using e2
      obtain rfl : u3 = .int .u8 k3 := by simpa using e3
      obtain rfl : u4 = .int .u8 k4 := by simpa using e4
      obtain rfl : u5 = .int .u8 k5 := by simpa using e5
      obtain rfl : u6 = .int .u8 k6 := by simpa using e6
      obtain rfl : u7 = .int .u8 k7 := by simpa using e7
      refine ⟨⟨k0, k1, k2, k3, k4, k5, k6, k7⟩, rfl, ?_⟩
      have b0 := bounds_u8 w0
      have b1 := bounds_u8 w1
      have b2 := bounds_u8 w2
      have b3 := bounds_u8 w3
      have b4 := bounds_u8 w4
      have b5 := bounds_u8 w5
      have b6 := bounds_u8 w6
      have b7 := bounds_u8 w7
      intro y hy
      simp only [N8.l, List.mem_cons, List.not_mem_nil, or_false] at hy
      rcases hy with rfl | rfl | rfl | rfl | rfl | rfl | rfl | rfl <;> omega
end
end
section
set_option linter.unusedVariables false
set_option linter.unusedSimpArgs false
open Go.RowKit
theorem Rdr.cells_ {w : World} {p : Nat} {T : TypeId} {P : Nat → Prop} {s : St} (h : Rdr w p T P s) : ∃ A n c, w.cell? ⟨p, 0, none⟩ = some (.slice A n c) ∧ n = s.1.length ∧ n ≤ c ∧ c ≤ maxLen ∧ w.cell? ⟨p, 1, none⟩ = some (.bool s.2) := by
  obtain ⟨A, n, c, h1, h2, h3, h4, h5, h6⟩ := h
  exact ⟨A, n, c, h1.cell 0, h5.1.1.symm, h2, h3, h1.cell 1⟩
theorem tk_dst {P : Program} {md : Region.Mode} {ops : Array Oper} {Q : Exit → Act → World → Prop} {S : World → Prop} {i : Nat} {oi : Oper} {dst : Option Tmp} {v : Value} {fuel : Nat} {listed : Array Bool} {a : Act} {w : World} (hi : ops[i]? = some oi) (hd : oi.dst = dst)
    (hs : Region.noSelect ops = true) (hf : Region.free md ops listed i = true) (hr : (Region.ready md ops listed).contains i = true)
    (hQ : ∀ c a w, Q (.panic c) (a.put dst v) w → Q (.panic c) a w) (hy : YieldsIf P ops S oi v a) (hS : S w)
    (h : wpAnyH P md ops Q S fuel (listed.setIfInBounds i true) (a.put dst v) w) : wpAnyH P md ops Q S (fuel + 1) listed a w := by
  subst hd
  exact wpAnyH_take hi hs hf hr hQ hy hS h
theorem yl_any {P : Program} {ops : Array Oper} {S : World → Prop} {op : Oper} {a : Act} (ty : TypeId) (x : Operand) (ho : op.op = .load ty x) (b o : Nat) (hx : a.eval x = .pointer (some ⟨b, o, none⟩)) (L : List Value) (d : TypeDesc) (hS : ∀ w, S w → w.rangeAt b o L)
    (hu : P.underlying ty = some d) (hd : d.isRow = true) (hi : (P.info? ty).map (·.size) = some L.length) (hw : Region.wanted op (yielded ops a.tmps) = true) : YieldsIf P ops S op (.agg L.toArray) a :=
  yieldsIf_load_mid hw _ x ho b o hx L _ hS hu hd hi
theorem step_st_any {P : Program} {ops : Array Oper} {a : Act} {w : World} {K : Act → World → Prop} {Q : Exit → Act → World → Prop} {E : Prop} {dst : Option Tmp} {x y : Operand} {ty t : TypeId} {pos : String} {after : Array Edge} {g : Option (Nat × Bool)}
    (hg : Region.wanted ⟨dst, .store ty x y, t, pos, after, g⟩ (yielded ops a.tmps) = true) (p : Nat) (T : TypeId) (l l' : List Value) (hx : a.eval x = .pointer (some ⟨p, 0, none⟩)) (hy : a.eval y = .agg l'.toArray) (hA : At w p T l) (hl : l.length = l'.length)
    (hi : (P.info? ty).map (·.size) = some l'.length) (h1 : l'.all (·.oneCell') = true) (h : ∀ w', At w' p T l' → Kept (· = p) w w' → K (a.put dst undef) w') :
    if Region.wanted ⟨dst, .store ty x y, t, pos, after, g⟩ (yielded ops a.tmps) = true then Oper.wp P ⟨dst, .store ty x y, t, pos, after, g⟩ a w K Q else E := by
  rw [if_pos hg]
  refine wp_store_mid _ x y rfl p 0 l'.toArray hx hy (by simpa using hA.there _ (by omega)) (by simpa using hi) (by simpa using h1) ?_
  have := At.setFrom l' l 0 w hA
  rw [setFrom_all l l' hl] at this
  exact h _ (by simpa using this) (by simpa using Kept.setCells (S := (· = p)) rfl l' 0 w (Kept.refl _ _))
theorem Own.inD_ {w : World} {base n c : Nat} {e : TypeId} {A : Option Addr} {bs : List Int} (h : Own w base e (.slice A n c) bs) (hn : bs.length = n) : InD w (fun b => base ≤ b) ⟨A, n, c⟩ bs := by
  subst hn
  obtain ⟨A', c', hv, h1, h2, h3⟩ := h.open_
  injection hv with e1 e2 e3
  subst e1; subst e3
  refine ⟨⟨h3, fun b off hn hA => ?_⟩, h1, h2, fun hA => h.nil_cap hA⟩
  simp only at hA
  exact (h.block_lt b (by rw [hA]; rfl)).1
theorem results_cell_tmp3 {P : Program} {w : World} {fn : Func} {tmps : Array Value} (s t t' t'' : Tmp) (ty : TypeId) (hr : fn.results = #[.cell s ty, .tmp t, .tmp t', .tmp t'']) (p : Nat) (T : TypeId) (l : List Value) (d : TypeDesc) (v v' v'' : Value) (hs : tmps.getD s undef = .pointer (some ⟨p, 0, none⟩)) (ht : tmps.getD t undef = v) (ht' : tmps.getD t' undef = v') (ht'' : tmps.getD t'' undef = v'') (hA : At w p T l)
    (hu : P.underlying ty = some d) (hd : d.isRow = true) (hi : (P.info? ty).map (·.size) = some l.length) : (results fn tmps).run P w = .ok (.tuple #[.agg l.toArray, v, v', v'']) w := by
  have h := run_loadVar_mid (P := P) w p 0 ty l d hA.rangeAt hu hd hi
  rw [Array.getD_eq_getD_getElem?] at hs ht ht' ht''
  simp [results, hr, hs, ht, ht', ht'', asAddr, h]
theorem Kept.of_belowB' {B : Nat} {w w' : World} (h : Below B w w') (S : Nat → Prop) (hS : ∀ j, B ≤ j → S j ∨ w.heap.size ≤ j) : Kept S w w' :=
  (Kept.refl S w).trans' (Kept.of_belowB h) (fun j hj => hS j hj)
end
section
set_option linter.unusedVariables false
set_option linter.unusedSimpArgs false
open Go.RowKit
theorem InD.below_ {w w' : World} {P : Nat → Prop} {d : Sl} {ds : List Int} (h : InD w P d ds) (k : Below w.heap.size w w') : InD w' P d ds := h.kept (Kept.of_below k (fun _ => False)) (fun _ _ h => h)
theorem At.of_below {w w' : World} {p : Nat} {T : TypeId} {l : List Value} (h : At w p T l) (k : Below w.heap.size w w') : At w' p T l := h.below k h.lt
theorem Own.place {w : World} {base : Nat} {e : TypeId} {v : Value} {bs : List Int} (h : Own w base e v bs) (hp : 0 < bs.length) :
    ∃ g c l, v = .slice (some ⟨g, 0, none⟩) bs.length c ∧ At w g e l ∧ l.length = c ∧ l.take bs.length = bs.map (Value.int .u8) ∧ base ≤ g ∧ bs.length ≤ c ∧ c ≤ maxLen := by
  rcases h.1.2 with ⟨_, h0⟩ | ⟨g, cap, cur, hv, hbg, hg, hnc, hcm, hcs, htake⟩
  · omega
  · exact ⟨g, cap, cur.toList, hv, hg, by simp; omega, by simpa using htake, hbg, hnc, hcm⟩
theorem place_cell {w : World} {g : Nat} {e : TypeId} {l : List Value} {bs : List Int} (h : At w g e l) (ht : l.take bs.length = bs.map (Value.int .u8)) (i : Nat) (x : Int) (hx : bs[i]? = some x) : w.cell? ⟨g, i, none⟩ = some (.int .u8 x) := by
  rw [h.cell]
  have hi : i < bs.length := (List.getElem?_eq_some_iff.1 hx).1
  rw [← List.getElem?_take_of_lt hi, ht, List.getElem?_map, hx]
  rfl
theorem place_set {w : World} {g base : Nat} {e : TypeId} {l : List Value} {bs : List Int} {c : Nat} (h : At w g e l) (hl : l.length = c) (ht : l.take bs.length = bs.map (Value.int .u8)) (hb : Byt bs) (hbg : base ≤ g) (hn : bs.length ≤ c) (hc : c ≤ maxLen) (i : Nat) (y : Int) (hy : 0 ≤ y ∧ y < 256) :
    Own (w.setCell ⟨g, i, none⟩ (.int .u8 y)) base e (.slice (some ⟨g, 0, none⟩) bs.length c) (bs.set i y) := by
  refine Own.of_block ?_ (by simp) (h.set i (.int .u8 y)) hbg hn hc (by simp [hl]) ?_
  · intro z hz
    rcases List.mem_or_eq_of_mem_set hz with hz | hz
    · exact hb z hz
    · rw [hz]; exact hy
  · show (l.set i (.int .u8 y)).take bs.length = _
    rw [List.take_set, ht, List.map_set]
theorem b_xor (a b : Int) (h0 : 0 ≤ a) (h1 : a < 256) (k0 : 0 ≤ b) (k1 : b < 256) : 0 ≤ bits BinOp.xor IntKind.u8 a b ∧ bits BinOp.xor IntKind.u8 a b < 256 := by
  rw [u8_xor _ _ h0 h1 k0 k1]
  have := Nat.xor_lt_two_pow (n := 8) (x := a.toNat) (y := b.toNat) (by omega) (by omega)
  omega
theorem InRow.inDl {w : World} {A : Option Addr} {n c : Nat} {bs : List Int} (h : InRow w A n c bs) : InD w (fun b => b < w.heap.size) ⟨A, n, c⟩ bs :=
  ⟨⟨h.1, fun b off hn' e => by obtain ⟨b', off', e', hb', _⟩ := h.1.2.2 hn'; simp only at e; rw [e] at e'; injection e' with e'; injection e' with e1 e2; omega⟩, h.2.1, h.2.2.1, h.2.2.2⟩
theorem InD.cutTo_ {w : World} {P : Nat → Prop} {A : Option Addr} {n c : Nat} {bs : List Int} (h : InD w P ⟨A, n, c⟩ bs) (k : Nat) : InD w P ⟨A, min n k, c⟩ (bs.take (min n k)) :=
  ⟨h.rd.cutTo (Nat.min_le_left n k), Nat.le_trans (Nat.min_le_left n k) h.lc, h.cm, h.nil⟩
theorem wpList_append_at_g {P : Program} {w : World} {ops : Array Oper} {rest : List Oper} {o : Oper} {a : Act} {Q : Exit → Act → World → Prop} (hgd : Region.wanted o (yielded ops a.tmps) = true) (s x : Operand) (t : TypeId)
    (ho : o.op = .call { callee := .builtin .append, args := #[s, x], argTypes := #[t, t] })
    (base : Nat) (e : TypeId) (i : TypeInfo) (ht : P.underlying t = some (.slice e)) (hi : P.info? e = some i) (hz : i.zero = some (.int .u8 0)) (hsize : i.size = 1) (hby : i.bytes = 1)
    (v : Value) (bs : List Int) (hs : a.eval s = v) (hown : Own w base e v bs)
    (B : Nat) (A : Option Addr) (m c : Nat) (news : List Int) (hx : a.eval x = .slice A m c) (hr : Rd w B A m news)
    (hlen : bs.length + m ≤ 140737488355328) (hbase : base ≤ w.heap.size)
    (h : ∀ v' w', Own w' base e v' (bs ++ news) → w.grownBy w' v.ownBlock → (v'.ownBlock = v.ownBlock ∨ v'.ownBlock = some w.heap.size) → wpList P ops Q rest (a.put o.dst v') w') : wpList P ops Q (o :: rest) a w := by
  refine wpList_step fun K hK => ?_
  rw [if_pos hgd]
  obtain ⟨v', w', h1, h2, h3, h4⟩ := run_append_at (P := P) (w := w) base t o.type e i ht hi hz hsize hby v bs hown B A m c news hr hlen hbase
  unfold Oper.wp
  simp [execOp, ho, resolve, invoke, builtin, hs, hx, h1, Result.andThen]
  exact hK _ _ (h v' w' h2 h3 h4)
end
section
set_option linter.unusedVariables false
set_option linter.unusedSimpArgs false
open Go.RowKit
def asksB (k : Int) : Bool := k != 0 && (k != 2 && k != 28)
set_option maxRecDepth 100000 in
set_option maxHeartbeats 1000000 in
theorem fasks_any (m : FN) (d r : Sl) (w : World) : Calls Try.prog 28 #[frV m d r] w (FrPost (.bool (asksB m.k)) w) := by
  obtain ⟨k, s, o, fin, l, c, f, q, y, c0, c1, c2, c3, c4, c5, c6, c7⟩ := m
  have hB : Below w.heap.size w (w.alloc (.cells (frL ⟨k, s, o, fin, l, c, f, q, y, c0, c1, c2, c3, c4, c5, c6, c7⟩ d r).toArray 31)) := (Below.refl _ _).alloc (Nat.le_refl _) _
  obtain ⟨V, hV⟩ : ∃ x, asksB k = x := ⟨_, rfl⟩
  have HV := Lib.hid hV
  have HB := Lib.hid hB
  simp only
  rw [hV]
  clear hV hB
  obtain ⟨dA, dn, dc⟩ := d
  obtain ⟨rA, rn, rc⟩ := r
  simp only [frV, frL]
  rcases Decidable.em (k = 0) with rfl | h0
  · go_enter Try.func28, Try.ntmps28
    go_wp2
    go_ret
    exact ⟨by rw [← HV.out]; rfl, HB.out⟩
  have e0 : (k != 0) = true := by simpa using h0
  have f0 : (k == 0) = false := by simpa using h0
  rcases Decidable.em (k = 2) with rfl | h2
  · go_enter Try.func28, Try.ntmps28
    go_wp2
    go_ret
    exact ⟨by rw [← HV.out]; rfl, HB.out⟩
  have e2 : (k != 2) = true := by simpa using h2
  have f2 : (k == 2) = false := by simpa using h2
  rcases Decidable.em (k = 28) with rfl | h28
  · go_enter Try.func28, Try.ntmps28
    go_wp2
    go_ret
    exact ⟨by rw [← HV.out]; rfl, HB.out⟩
  have e28 : (k != 28) = true := by simpa using h28
  have f28 : (k == 28) = false := by simpa using h28
  have HT : Hid (V = true) := Lib.hid (by rw [← HV.out]; unfold asksB; rw [e0, e2, e28]; rfl)
  clear h0 h2 h28
  go_enter Try.func28, Try.ntmps28
  go_wp2
  go_ret
  exact ⟨by rw [HT.out]; rfl, HB.out⟩
set_option maxRecDepth 100000 in
set_option maxHeartbeats 1000000 in
theorem rasks_any (m : FN) (d r : Sl) (w : World) : Calls Try.prog 29 #[frV m d r] w (FrPost (.bool (asksB m.k)) w) := by
  obtain ⟨k, s, o, fin, l, c, f, q, y, c0, c1, c2, c3, c4, c5, c6, c7⟩ := m
  have hB : Below w.heap.size w (w.alloc (.cells (frL ⟨k, s, o, fin, l, c, f, q, y, c0, c1, c2, c3, c4, c5, c6, c7⟩ d r).toArray 31)) := (Below.refl _ _).alloc (Nat.le_refl _) _
  obtain ⟨V, hV⟩ : ∃ x, asksB k = x := ⟨_, rfl⟩
  have HV := Lib.hid hV
  have HB := Lib.hid hB
  simp only
  rw [hV]
  clear hV hB
  obtain ⟨dA, dn, dc⟩ := d
  obtain ⟨rA, rn, rc⟩ := r
  simp only [frV, frL]
  rcases Decidable.em (k = 0) with rfl | h0
  · go_enter Try.func29, Try.ntmps29
    go_wp2
    go_ret
    exact ⟨by rw [← HV.out]; rfl, HB.out⟩
  have e0 : (k != 0) = true := by simpa using h0
  have f0 : (k == 0) = false := by simpa using h0
  rcases Decidable.em (k = 2) with rfl | h2
  · go_enter Try.func29, Try.ntmps29
    go_wp2
    go_ret
    exact ⟨by rw [← HV.out]; rfl, HB.out⟩
  have e2 : (k != 2) = true := by simpa using h2
  have f2 : (k == 2) = false := by simpa using h2
  rcases Decidable.em (k = 28) with rfl | h28
  · go_enter Try.func29, Try.ntmps29
    go_wp2
    go_ret
    exact ⟨by rw [← HV.out]; rfl, HB.out⟩
  have e28 : (k != 28) = true := by simpa using h28
  have f28 : (k == 28) = false := by simpa using h28
  have HT : Hid (V = true) := Lib.hid (by rw [← HV.out]; unfold asksB; rw [e0, e2, e28]; rfl)
  clear h0 h2 h28
  go_enter Try.func29, Try.ntmps29
  go_wp2
  go_ret
  exact ⟨by rw [HT.out]; rfl, HB.out⟩
end
section
set_option linter.unusedVariables false
set_option linter.unusedSimpArgs false
open Go.RowKit
set_option maxRecDepth 100000 in
theorem body_app (m : FN) (ds : List Int) (rs : RS) (more : List Int) (hw : m.wf) (h : rightB m ds rs = true) : rdK (wkS m) (bodyS m ds rs ++ more, false) = some (askN m, askDs m.k ds, askRs m.k rs, (more, false)) := by
  obtain ⟨k, s, o, fin, l, c, f, q, y, c0, c1, c2, c3, c4, c5, c6, c7⟩ := m
  have w1 := hw.s0
  have w2 := hw.o0
  have w3 := hw.l0
  have w4 := hw.c0
  have w5 := hw.f0
  have w6 := hw.q0
  have w7 := hw.y0
  simp only at w1 w2 w3 w4 w5 w6 w7
  rcases kind_cases k with rfl | rfl | rfl | rfl | rfl | rfl | rfl | rfl | rfl | rfl | rfl | rfl | rfl | rfl | rfl | rfl | rfl | hx
  · simp [rdK, wkS, bodyS, askN, askDs, askRs, FN.zero]
  · simp [rdK, wkS, bodyS, askN, askDs, askRs, FN.zero]
  · simp [rdK, wkS, bodyS, askN, askDs, askRs, FN.zero]
  · simp [rightB, knownB, nrB, smB, drB, askN, askDs, askRs, FN.zero, glS] at h
    have v := ack_app y rs more ⟨w7, by omega⟩ (by simp [h])
    simp [rdK, wkS, bodyS, askN, askDs, askRs, FN.zero, v]
  · simp [rightB, knownB, nrB, smB, drB, askN, askDs, askRs, FN.zero, glS] at h
    have v := var_three s c f ⟨w1, by omega⟩ ⟨w4, by omega⟩ ⟨w5, by omega⟩ more
    simp [rdK, wkS, bodyS, askN, askDs, askRs, FN.zero, v]
  · simp [rightB, knownB, nrB, smB, drB, askN, askDs, askRs, FN.zero, glS] at h
    have v := var_two s c ⟨w1, by omega⟩ ⟨w4, by omega⟩ more
    simp [rdK, wkS, bodyS, askN, askDs, askRs, FN.zero, v]
  · simp [rightB, knownB, nrB, smB, drB, askN, askDs, askRs, FN.zero, glS] at h
    have v := var_app o ⟨w2, by omega⟩ (textB ds ++ more)
    have u := text_app ds more (by omega)
    simp [rdK, wkS, bodyS, askN, askDs, askRs, FN.zero, v, u]
  · simp [rightB, knownB, nrB, smB, drB, askN, askDs, askRs, FN.zero, glS] at h
    have u := text_app ds more (by omega)
    by_cases ho : 0 < o
    · have v := var_app s ⟨w1, by omega⟩ (putS o ++ (textB ds ++ more))
      have v2 := var_app o ⟨w2, by omega⟩ (textB ds ++ more)
      cases fin <;> simp [rdK, wkS, bodyS, askN, askDs, askRs, FN.zero, v, v2, u, ho, dataR, dataN]
    · have v := var_app s ⟨w1, by omega⟩ (textB ds ++ more)
      have ho0 : o = 0 := by omega
      cases fin <;> simp [rdK, wkS, bodyS, askN, askDs, askRs, FN.zero, v, u, ho0, dataR, dataN]
  · simp [rightB, knownB, nrB, smB, drB, askN, askDs, askRs, FN.zero, glS] at h
    have v := var_app l ⟨w3, by omega⟩ more
    simp [rdK, wkS, bodyS, askN, askDs, askRs, FN.zero, v]
  · simp [rightB, knownB, nrB, smB, drB, askN, askDs, askRs, FN.zero, glS] at h
    have v := var_app l ⟨w3, by omega⟩ more
    simp [rdK, wkS, bodyS, askN, askDs, askRs, FN.zero, v]
  · simp [rightB, knownB, nrB, smB, drB, askN, askDs, askRs, FN.zero, glS] at h
    have v := var_app l ⟨w3, by omega⟩ more
    simp [rdK, wkS, bodyS, askN, askDs, askRs, FN.zero, v]
  · simp [rightB, knownB, nrB, smB, drB, askN, askDs, askRs, FN.zero, glS] at h
    have v := var_two s l ⟨w1, by omega⟩ ⟨w3, by omega⟩ more
    simp [rdK, wkS, bodyS, askN, askDs, askRs, FN.zero, v]
  · simp [rightB, knownB, nrB, smB, drB, askN, askDs, askRs, FN.zero, glS] at h
    have v := var_two q l ⟨w6, by omega⟩ ⟨w3, by omega⟩ (8 :: ([c0, c1, c2, c3, c4, c5, c6, c7] ++ more))
    have u := take_app [8] ([c0, c1, c2, c3, c4, c5, c6, c7] ++ more) 1 rfl
    have t := take_app [c0, c1, c2, c3, c4, c5, c6, c7] more 8 rfl
    simp only [List.cons_append, List.nil_append] at v u t
    simp [rdK, wkS, bodyS, askN, askDs, askRs, FN.zero, cidL, withC, byteR, v, u, t]
  · simp [rightB, knownB, nrB, smB, drB, askN, askDs, askRs, FN.zero, glS] at h
    have v := var_app q ⟨w6, by omega⟩ more
    simp [rdK, wkS, bodyS, askN, askDs, askRs, FN.zero, v]
  · have t := take_app [c0, c1, c2, c3, c4, c5, c6, c7] more 8 rfl
    simp only [List.cons_append, List.nil_append] at t
    simp [rdK, wkS, bodyS, askN, askDs, askRs, FN.zero, cidL, withC, t]
  · have t := take_app [c0, c1, c2, c3, c4, c5, c6, c7] more 8 rfl
    simp only [List.cons_append, List.nil_append] at t
    simp [rdK, wkS, bodyS, askN, askDs, askRs, FN.zero, cidL, withC, t]
  · simp [rightB, knownB, nrB, smB, drB, askN, askDs, askRs, FN.zero, glS] at h
    have v := var_app c ⟨w4, by omega⟩ (textB ds ++ more)
    have u := text_app ds more (by omega)
    simp [rdK, wkS, bodyS, askN, askDs, askRs, FN.zero, v, u]
  · exfalso
    unfold rightB knownB at h
    simp only [Bool.and_eq_true] at h
    obtain ⟨e0, e1, e30, e2, e4, e5, e6, e8, e16, e18, e20, e17, e24, e25, e26, e27, e28⟩ := hx
    simp [e0, e1, e30, e2, e4, e5, e6, e8, e16, e18, e20, e17, e24, e25, e26, e27, e28] at h
theorem ask_right (m : FN) (ds : List Int) (rs : RS) (h : rightB m ds rs = true) : rightB (askN m) (askDs m.k ds) (askRs m.k rs) = true := by
  obtain ⟨k, s, o, fin, l, c, f, q, y, c0, c1, c2, c3, c4, c5, c6, c7⟩ := m
  rcases kind_cases k with rfl | rfl | rfl | rfl | rfl | rfl | rfl | rfl | rfl | rfl | rfl | rfl | rfl | rfl | rfl | rfl | rfl | hx
  all_goals first
    | (simp [rightB, knownB, nrB, smB, drB, askN, askDs, askRs, FN.zero, glS] at h ⊢; done)
    | (simp [rightB, knownB, nrB, smB, drB, askN, askDs, askRs, FN.zero, glS] at h ⊢; exact h)
    | (exfalso
       unfold rightB knownB at h
       simp only [Bool.and_eq_true] at h
       obtain ⟨e0, e1, e30, e2, e4, e5, e6, e8, e16, e18, e20, e17, e24, e25, e26, e27, e28⟩ := hx
       simp [e0, e1, e30, e2, e4, e5, e6, e8, e16, e18, e20, e17, e24, e25, e26, e27, e28] at h)
theorem wkS_r (m : FN) (ds : List Int) (rs : RS) (h : rightB m ds rs = true) : 0 ≤ wkS m ∧ wkS m ≤ 30 := by
  obtain ⟨k, s, o, fin, l, c, f, q, y, c0, c1, c2, c3, c4, c5, c6, c7⟩ := m
  unfold wkS
  rcases kind_cases k with rfl | rfl | rfl | rfl | rfl | rfl | rfl | rfl | rfl | rfl | rfl | rfl | rfl | rfl | rfl | rfl | rfl | hx
  all_goals first
    | (simp; done)
    | (simp; (repeat' split) <;> omega)
    | (exfalso
       unfold rightB knownB at h
       simp only [Bool.and_eq_true] at h
       obtain ⟨e0, e1, e30, e2, e4, e5, e6, e8, e16, e18, e20, e17, e24, e25, e26, e27, e28⟩ := hx
       simp [e0, e1, e30, e2, e4, e5, e6, e8, e16, e18, e20, e17, e24, e25, e26, e27, e28] at h)
theorem read_app (m : FN) (ds : List Int) (rs : RS) (more : List Int) (hw : m.wf) (h : rightB m ds rs = true) : readO (oneS m ds rs ++ more, false) = some (askN m, askDs m.k ds, askRs m.k rs, (more, false)) := by
  have hk := wkS_r m ds rs h
  have v := var_app (wkS m) ⟨hk.1, by omega⟩ (bodyS m ds rs ++ more)
  have b := body_app m ds rs more hw h
  have a := ask_right m ds rs h
  unfold readO oneS
  rw [List.append_assoc, v.1, v.2, if_neg (by omega), b]
  simp only
  rw [if_pos ⟨trivial, a⟩]
/-- What is asked of a frame, as data. -/
def FR.asked (x : FR) : FD := (askN x.m, askDs x.m.k x.ds, askRs x.m.k x.rs)
theorem one_pos (m : FN) (ds : List Int) (rs : RS) (h : rightB m ds rs = true) : 0 < (oneS m ds rs).length := by
  have hk := wkS_r m ds rs h
  have := size_pos (wkS m) (by omega)
  unfold oneS
  rw [List.length_append, putS_len]; omega
/-- All of Encode is the frames. -/
theorem all_enc : ∀ (L : List FR) (n : Nat), L ≠ [] → L.length ≤ n → L.all FR.right = true → (∀ x ∈ L, x.m.wf) → allO n (encS L, false) = some (L.map FR.asked)
  | [], _, h, _, _, _ => absurd rfl h
  | x :: t, 0, _, h, _, _ => by simp at h
  | x :: t, n + 1, _, hn, hr, hw => by
    simp only [List.all_cons, Bool.and_eq_true] at hr
    have e : encS (x :: t) = oneS x.m x.ds x.rs ++ encS t := by simp [encS]
    have r := read_app x.m x.ds x.rs (encS t) (hw x (by simp)) hr.1
    unfold allO
    rw [e, r]
    simp only
    cases t with
    | nil => simp [encS, FR.asked]
    | cons y u =>
      have hp : (encS (y :: u)).length ≠ 0 := by
        have hr2 := hr.2
        simp only [List.all_cons, Bool.and_eq_true] at hr2
        have := one_pos y.m y.ds y.rs hr2.1
        have e2 : encS (y :: u) = oneS y.m y.ds y.rs ++ encS u := by simp [encS]
        rw [e2, List.length_append]; omega
      rw [if_neg hp, all_enc (y :: u) n (by simp) (by simp at hn ⊢; omega) hr.2 (fun z hz => hw z (by simp at hz ⊢; right; exact hz))]
      rfl
end
section
set_option linter.unusedVariables false
set_option linter.unusedSimpArgs false
open Go.RowKit
/-- What was read without running short is read alike with more behind it. -/
theorem tx_false (s : St) (h : (textN s).2 = false) : s.2 = false := var_false s (take_false (varN s) (varR s) h)
theorem ackLoop_false : ∀ (n : Nat) (s : St) (lo : Int) (acc : RS), (ackLoop n s lo acc).2.2 = false → s.2 = false
  | 0, s, lo, acc, h => h
  | n + 1, s, lo, acc, h => var_false _ (var_false _ (ackLoop_false n _ _ _ h))
theorem ackLoop_ext (m : List Int) : ∀ (n : Nat) (s : St) (lo : Int) (acc : RS), (ackLoop n s lo acc).2.2 = false → ackLoop n (s.1 ++ m, false) lo acc = ((ackLoop n s lo acc).1, ((ackLoop n s lo acc).2.1 ++ m, false))
  | 0, s, lo, acc, h => rfl
  | n + 1, s, lo, acc, h => by
    have h2 : (varN (varN s)).2 = false := ackLoop_false n _ _ _ h
    have h1 := var_false _ h2
    have e1 := var_ext s m h1
    have e2 := var_ext (varN s) m h2
    have ih := ackLoop_ext m n _ _ _ h
    unfold ackLoop
    rw [e1.1, e1.2, e2.1, e2.2]
    exact ih
theorem ackR_ext (s : St) (m : List Int) (h : (ackR s).2.2.2 = false) : ackR (s.1 ++ m, false) = ((ackR s).1, (ackR s).2.1, ((ackR s).2.2.1 ++ m, false)) := by
  have h4 : (varN (varN (varN (varN s)))).2 = false := by
    unfold ackR at h
    split at h
    · exact h
    · exact ackLoop_false _ _ _ _ h
  have h3 := var_false _ h4
  have h2 := var_false _ h3
  have h1 := var_false _ h2
  have e1 := var_ext s m h1
  have e2 := var_ext (varN s) m h2
  have e3 := var_ext (varN (varN s)) m h3
  have e4 := var_ext (varN (varN (varN s))) m h4
  unfold ackR ackTop at h ⊢
  rw [e1.1, e1.2, e2.1, e2.2, e3.1, e3.2, e4.1, e4.2]
  by_cases h16 : 16 ≤ varR (varN (varN s))
  · rw [if_pos h16, if_pos h16]
  · rw [if_neg h16] at h ⊢
    rw [if_neg h16]
    rw [ackLoop_ext m _ _ _ _ h]
theorem byte_ext (s : St) (m : List Int) (h : (takeN s 1).2 = false) : byteR (s.1 ++ m, false) = byteR s := by
  unfold byteR
  rw [(take_ext s 1 m h).1]
theorem ackR_false (s : St) (h : (ackR s).2.2.2 = false) : s.2 = false := by
  have h4 : (varN (varN (varN (varN s)))).2 = false := by
    unfold ackR at h
    split at h
    · exact h
    · exact ackLoop_false _ _ _ _ h
  exact var_false _ (var_false _ (var_false _ (var_false _ h4)))
def RdF (s : St) (o : Option (FN × List Int × RS × St)) : Prop := ∀ x, o = some x → x.2.2.2.2 = false → s.2 = false
theorem data_false (s : St) (b : Bool) (h : (dataN s b).2 = false) : s.2 = false := by
  unfold dataN at h
  split at h
  · exact tx_false _ h
  · exact take_false _ _ h
theorem rdK_false (k : Int) (s : St) : ∀ x, rdK k s = some x → x.2.2.2.2 = false → s.2 = false := by
  show RdF s (rdK k s)
  unfold rdK
  repeat' (refine ite_P (P := RdF s) ?_ ?_)
  all_goals
    intro x hx hb
    first
    | (cases hx; done)
    | (injection hx with hx
       subst hx
       simp only at hb
       first
       | exact hb
       | exact var_false _ hb
       | exact var_false _ (var_false _ hb)
       | exact var_false _ (var_false _ (var_false _ hb))
       | exact var_false _ (tx_false _ hb)
       | exact ackR_false _ hb
       | exact var_false _ (data_false _ _ hb)
       | exact var_false _ (var_false _ (data_false _ _ hb))
       | exact take_false _ _ hb
       | exact var_false _ (var_false _ (take_false _ _ (take_false _ _ hb))))
theorem rdK_ext (k : Int) (s : St) (m : List Int) (hk : k ≠ 8 ∧ k ≠ 9 ∧ k ≠ 12 ∧ k ≠ 13) (x : FN × List Int × RS × St) (h : rdK k s = some x) (hb : x.2.2.2.2 = false) :
    rdK k (s.1 ++ m, false) = some (x.1, x.2.1, x.2.2.1, (x.2.2.2.1 ++ m, false)) := by
  obtain ⟨k8, k9, k12, k13⟩ := hk
  have V := fun (s : St) (h : (varN s).2 = false) => var_ext s m h
  have T := fun (s : St) (h : (textN s).2 = false) => text_ext s m h
  have K := fun (s : St) (n : Int) (h : (takeN s n).2 = false) => take_ext s n m h
  unfold rdK at h ⊢
  by_cases h2 : k = 2
  · rw [if_pos h2] at h ⊢
    injection h with h; subst h
    rw [ackR_ext s m hb]
  rw [if_neg h2] at h ⊢
  by_cases h4 : k = 4
  · rw [if_pos h4] at h ⊢
    injection h with h; subst h
    simp only at hb
    have e2 := var_false _ hb
    have e1 := var_false _ e2
    rw [(V _ e1).1, (V _ e1).2, (V _ e2).1, (V _ e2).2, (V _ hb).1, (V _ hb).2]
  rw [if_neg h4] at h ⊢
  by_cases h5 : k = 5
  · rw [if_pos h5] at h ⊢
    injection h with h; subst h
    simp only at hb
    have e1 := var_false _ hb
    rw [(V _ e1).1, (V _ e1).2, (V _ hb).1, (V _ hb).2]
  rw [if_neg h5] at h ⊢
  by_cases h6 : k = 6
  · rw [if_pos h6] at h ⊢
    injection h with h; subst h
    simp only at hb
    have e1 := tx_false _ hb
    rw [(V _ e1).1, (V _ e1).2, (T _ hb).1, (T _ hb).2]
  rw [if_neg h6] at h ⊢
  rw [if_neg k8, if_neg k9] at h ⊢
  by_cases h10 : k = 10
  · rw [if_pos h10] at h ⊢
    injection h with h; subst h
    simp only [dataR, dataN, if_true] at hb ⊢
    have e1 := tx_false _ hb
    rw [(V _ e1).1, (V _ e1).2, (T _ hb).1, (T _ hb).2]
  rw [if_neg h10] at h ⊢
  by_cases h11 : k = 11
  · rw [if_pos h11] at h ⊢
    injection h with h; subst h
    simp only [dataR, dataN, if_true] at hb ⊢
    have e1 := tx_false _ hb
    rw [(V _ e1).1, (V _ e1).2, (T _ hb).1, (T _ hb).2]
  rw [if_neg h11] at h ⊢
  rw [if_neg k12, if_neg k13] at h ⊢
  by_cases h14 : k = 14
  · rw [if_pos h14] at h ⊢
    injection h with h; subst h
    simp only [dataR, dataN, if_true] at hb ⊢
    have e2 := tx_false _ hb
    have e1 := var_false _ e2
    rw [(V _ e1).1, (V _ e1).2, (V _ e2).1, (V _ e2).2, (T _ hb).1, (T _ hb).2]
  rw [if_neg h14] at h ⊢
  by_cases h15 : k = 15
  · rw [if_pos h15] at h ⊢
    injection h with h; subst h
    simp only [dataR, dataN, if_true] at hb ⊢
    have e2 := tx_false _ hb
    have e1 := var_false _ e2
    rw [(V _ e1).1, (V _ e1).2, (V _ e2).1, (V _ e2).2, (T _ hb).1, (T _ hb).2]
  rw [if_neg h15] at h ⊢
  by_cases h16 : k = 16
  · rw [if_pos h16] at h ⊢
    injection h with h; subst h
    simp only at hb
    rw [(V _ hb).1, (V _ hb).2]
  rw [if_neg h16] at h ⊢
  by_cases h18 : k = 18
  · rw [if_pos h18] at h ⊢
    injection h with h; subst h
    simp only at hb
    rw [(V _ hb).1, (V _ hb).2]
  rw [if_neg h18] at h ⊢
  by_cases h20 : k = 20
  · rw [if_pos h20] at h ⊢
    injection h with h; subst h
    simp only at hb
    rw [(V _ hb).1, (V _ hb).2]
  rw [if_neg h20] at h ⊢
  by_cases h17 : k = 17
  · rw [if_pos h17] at h ⊢
    injection h with h; subst h
    simp only at hb
    have e1 := var_false _ hb
    rw [(V _ e1).1, (V _ e1).2, (V _ hb).1, (V _ hb).2]
  rw [if_neg h17] at h ⊢
  by_cases h24 : k = 24
  · rw [if_pos h24] at h ⊢
    by_cases hB : byteR (varN (varN s)) = 8
    · rw [if_pos hB] at h
      injection h with h; subst h
      simp only at hb
      have e3 := take_false _ _ hb
      have e2 := take_false _ _ e3
      have e1 := var_false _ e2
      rw [(V _ e1).1, (V _ e1).2, (V _ e2).1, (V _ e2).2, byte_ext _ m e3, if_pos hB, (K _ _ e3).2, (K _ _ hb).1, (K _ _ hb).2]
    · rw [if_neg hB] at h; cases h
  rw [if_neg h24] at h ⊢
  by_cases h25 : k = 25
  · rw [if_pos h25] at h ⊢
    injection h with h; subst h
    simp only at hb
    rw [(V _ hb).1, (V _ hb).2]
  rw [if_neg h25] at h ⊢
  by_cases h26 : k = 26
  · rw [if_pos h26] at h ⊢
    injection h with h; subst h
    simp only at hb
    rw [(K _ _ hb).1, (K _ _ hb).2]
  rw [if_neg h26] at h ⊢
  by_cases h27 : k = 27
  · rw [if_pos h27] at h ⊢
    injection h with h; subst h
    simp only at hb
    rw [(K _ _ hb).1, (K _ _ hb).2]
  rw [if_neg h27] at h ⊢
  by_cases h28 : k = 28
  · rw [if_pos h28] at h ⊢
    injection h with h; subst h
    simp only at hb
    have e1 := tx_false _ hb
    rw [(V _ e1).1, (V _ e1).2, (T _ hb).1, (T _ hb).2]
  rw [if_neg h28] at h ⊢
  injection h with h; subst h
  rfl
theorem wkS_not (m : FN) : wkS m ≠ 8 ∧ wkS m ≠ 9 ∧ wkS m ≠ 12 ∧ wkS m ≠ 13 ∨ (m.k ≠ 8 ∧ (m.k = 9 ∨ m.k = 12 ∨ m.k = 13)) := by
  obtain ⟨k, s, o, fin, l, c, f, q, y, c0, c1, c2, c3, c4, c5, c6, c7⟩ := m
  unfold wkS
  simp only
  (repeat' split) <;> omega
/-- A beginning of a frame's bytes is none. -/
theorem one_cut (m : FN) (ds : List Int) (rs : RS) (hw : m.wf) (h : rightB m ds rs = true) (q : Nat) (hq : q < (oneS m ds rs).length) : readO ((oneS m ds rs).take q, false) = none := by
  have hkn : m.k ≠ 9 ∧ m.k ≠ 12 ∧ m.k ≠ 13 := by
    unfold rightB knownB at h
    simp only [Bool.and_eq_true] at h
    refine ⟨?_, ?_, ?_⟩ <;> (intro e; rw [e] at h; simp at h)
  have hwk : wkS m ≠ 8 ∧ wkS m ≠ 9 ∧ wkS m ≠ 12 ∧ wkS m ≠ 13 := by
    rcases wkS_not m with h1 | ⟨_, h1⟩
    · exact h1
    · omega
  have hr := read_app m ds rs [] hw h
  rw [List.append_nil] at hr
  cases hx : readO ((oneS m ds rs).take q, false) with
  | none => rfl
  | some x =>
    exfalso
    unfold readO at hx
    by_cases h30 : 30 < varR ((oneS m ds rs).take q, false)
    · rw [if_pos h30] at hx; cases hx
    rw [if_neg h30] at hx
    cases hd : rdK (varR ((oneS m ds rs).take q, false)) (varN ((oneS m ds rs).take q, false)) with
    | none => rw [hd] at hx; cases hx
    | some z =>
      rw [hd] at hx
      simp only at hx
      split at hx
      case isFalse => cases hx
      case isTrue hc =>
        injection hx with hx
        subst hx
        have hs := rdK_false _ _ _ hd hc.1
        have e1 := var_ext ((oneS m ds rs).take q, false) ((oneS m ds rs).drop q) hs
        simp only [List.take_append_drop] at e1
        have hk := wkS_r m ds rs h
        have v := var_app (wkS m) ⟨hk.1, by omega⟩ (bodyS m ds rs)
        have ek : varR ((oneS m ds rs).take q, false) = wkS m := by rw [← e1.1]; exact v.1
        rw [ek] at hd
        have e2 := rdK_ext (wkS m) _ ((oneS m ds rs).drop q) hwk z hd hc.1
        rw [← e1.2] at e2
        have hr2 : readO (oneS m ds rs, false) = some (z.1, z.2.1, z.2.2.1, (z.2.2.2.1 ++ (oneS m ds rs).drop q, false)) := by
          unfold readO
          rw [e1.1, ek, if_neg (by omega), e2]
          simp only
          rw [if_pos ⟨trivial, hc.2⟩]
        rw [hr] at hr2
        injection hr2 with hr2
        injection hr2 with _ hr2
        injection hr2 with _ hr2
        injection hr2 with _ hr2
        injection hr2 with hr2 _
        have := congrArg List.length hr2
        rw [List.length_nil, List.length_append, List.length_drop] at this
        omega
end
section
open Go.RowKit Go.ChangeShapes Go.WideShapes Go.Deep
set_option linter.unusedVariables false
set_option linter.unusedSimpArgs false
section
variable {H : Type} {enc : TypeId × Value → H} {w : World}
theorem us_of_trod {fuel : Nat} {cs : List Value} {x : DataW H × List MemPlace} (h : DataW.trod enc Try.prog w 0 (fun _ => true) true fuel 53 cs = some x) :
    ∃ A len cap xs, cs = [.slice A len cap] ∧ UsP w (fun _ => True) A len xs ∧ len ≤ cap ∧ cap ≤ maxLen := by
  have c22 : Try.prog.cellsOf 25 = 1 := by kernel_rfl
  rcases open_ints Try.underlying53 Try.underlying25 c22 h with ⟨hcs, _⟩ | ⟨x, l, c, zs, hcs, _, hl, hm, hz, _, hcell, hwz⟩
  · exact ⟨none, 0, 0, [], hcs, ⟨rfl, fun x hx => (by cases hx), fun h => absurd h (by omega)⟩, Nat.le_refl _, by unfold maxLen; exact Nat.zero_le _⟩
  · have hz : zs.length = c := by simpa using hz
    refine ⟨some x, l, c, zs.take l, hcs, ⟨by rw [List.length_take]; omega, fun y hy => ?_, fun hp => ?_⟩, hl, hm⟩
    · have := bounds_u64 (hwz y (List.mem_of_mem_take hy))
      omega
    · obtain ⟨b, off, spot⟩ := x
      have h0 := hcell 0 (by omega)
      have hs : spot = none := by simpa [Addr.add] using World.cell?_spot h0
      subst hs
      have h1 := hcell 0 (by omega)
      rw [addr_add] at h1
      refine ⟨b, off, rfl, cell_lt h1, trivial, fun i v hi => ?_⟩
      have hil : i < l := by have := (List.getElem?_eq_some_iff.1 hi).1; rw [List.length_take] at this; omega
      have h2 := hcell i (by omega)
      rw [addr_add] at h2
      rw [List.getElem?_take_of_lt hil] at hi
      rw [h2, List.getD_eq_getElem?_getD, hi]; rfl
set_option maxRecDepth 100000 in
theorem fx_of_trod {fuel : Nat} {cs : List Value} {x : DataW H × List MemPlace} (h : DataW.trod enc Try.prog w 0 (fun _ => true) true fuel 55 cs = some x) (hl8 : cs.length = 8) :
    ∃ d : FX, cs = d.l ∧ d.ok w (fun _ => True) := by
  have c3 : Try.prog.cellsOf 3 = 1 := by kernel_rfl
  have c22 : Try.prog.cellsOf 25 = 1 := by kernel_rfl
  have c23 : Try.prog.cellsOf 26 = 1 := by kernel_rfl
  have c24 : Try.prog.cellsOf 53 = 1 := by kernel_rfl
  have c5 : Try.prog.cellsOf 5 = 1 := by kernel_rfl
  have c4 : Try.prog.cellsOf 4 = 1 := by kernel_rfl
  obtain ⟨ys, n', _, _, hlen, hyl, hf⟩ := DataW.trod_struct Try.underlying55 h
  match cs, hl8 with
  | [u0, u1, u2, u3, u4, u5, u6, u7], _ =>
    match ys, hyl with
    | [y0, y1, y2, y3, y4, y5, y6, y7], _ =>
      have h0 : DataW.trod enc Try.prog w 0 (fun _ => true) true n' 3 (([u0, u1, u2, u3, u4, u5, u6, u7].drop 0).take (Try.prog.cellsOf 3)) = some y0 := hf 0 _ rfl
      have h1 : DataW.trod enc Try.prog w 0 (fun _ => true) true n' 25 (([u0, u1, u2, u3, u4, u5, u6, u7].drop 1).take (Try.prog.cellsOf 25)) = some y1 := hf 1 _ rfl
      have h2 : DataW.trod enc Try.prog w 0 (fun _ => true) true n' 25 (([u0, u1, u2, u3, u4, u5, u6, u7].drop 2).take (Try.prog.cellsOf 25)) = some y2 := hf 2 _ rfl
      have h3 : DataW.trod enc Try.prog w 0 (fun _ => true) true n' 25 (([u0, u1, u2, u3, u4, u5, u6, u7].drop 3).take (Try.prog.cellsOf 25)) = some y3 := hf 3 _ rfl
      have h4 : DataW.trod enc Try.prog w 0 (fun _ => true) true n' 26 (([u0, u1, u2, u3, u4, u5, u6, u7].drop 4).take (Try.prog.cellsOf 26)) = some y4 := hf 4 _ rfl
      have h5 : DataW.trod enc Try.prog w 0 (fun _ => true) true n' 4 (([u0, u1, u2, u3, u4, u5, u6, u7].drop 5).take (Try.prog.cellsOf 4)) = some y5 := hf 5 _ rfl
      have h6 : DataW.trod enc Try.prog w 0 (fun _ => true) true n' 53 (([u0, u1, u2, u3, u4, u5, u6, u7].drop 6).take (Try.prog.cellsOf 53)) = some y6 := hf 6 _ rfl
      have h7 : DataW.trod enc Try.prog w 0 (fun _ => true) true n' 3 (([u0, u1, u2, u3, u4, u5, u6, u7].drop 7).take (Try.prog.cellsOf 3)) = some y7 := hf 7 _ rfl
      rw [c3] at h0 h7
      rw [c22] at h1 h2 h3
      rw [c23] at h4
      rw [c4] at h5
      rw [c24] at h6
      obtain ⟨k0, e0, _, w0⟩ := DataW.trod_int Try.underlying3 h0
      obtain ⟨k1, e1, _, w1⟩ := DataW.trod_int Try.underlying25 h1
      obtain ⟨k2, e2, _, w2⟩ := DataW.trod_int Try.underlying25 h2
      obtain ⟨k3, e3, _, w3⟩ := DataW.trod_int Try.underlying25 h3
      obtain ⟨A, l, c, bs, e4, hr⟩ := inRow_of_trod Try.underlying26 Try.underlying5 c5 h4
      obtain ⟨b, e5, _⟩ := DataW.trod_bool Try.underlying4 h5
      obtain ⟨A6, l6, cap6, xs, e6, hu, hlc, hcm⟩ := us_of_trod h6
      obtain ⟨k7, e7, _, w7⟩ := DataW.trod_int Try.underlying3 h7
      obtain rfl : u0 = .int .i64 k0 := by simpa using e0
      obtain rfl : u1 = .int .u64 k1 := by simpa using e1
      obtain rfl : u2 = .int .u64 k2 := by simpa using e2
      obtain rfl : u3 = .int .u64 k3 := by simpa using e3
      obtain rfl : u4 = .slice A l c := by simpa using e4
      obtain rfl : u5 = .bool b := by simpa using e5
      obtain rfl : u6 = .slice A6 l6 cap6 := by simpa using e6
      obtain rfl : u7 = .int .i64 k7 := by simpa using e7
      have b1 := bounds_u64 w1
      have b2 := bounds_u64 w2
      have b3 := bounds_u64 w3
      exact ⟨⟨k0, k1, k2, k3, ⟨A, l, c⟩, b, ⟨A6, l6, cap6⟩, k7, bs, xs⟩, rfl, ⟨bounds_i64 w0, ⟨b1.1, by have := b1.2; show k1 < _; omega⟩, ⟨b2.1, by have := b2.2; show k2 < _; omega⟩, ⟨b3.1, by have := b3.2; show k3 < _; omega⟩, ⟨⟨hr.1, fun _ _ _ _ => trivial⟩, hr.2.1, hr.2.2.1, hr.2.2.2⟩, hu, hlc, hcm, bounds_i64 w7⟩⟩
end
theorem sameB_ask (m : FN) (ds : List Int) (rs : RS) : sameB (askN m) m (askDs m.k ds) ds (askRs m.k rs) rs = true ∧ sameB m (askN m) ds (askDs m.k ds) rs (askRs m.k rs) = true := by
  obtain ⟨k, s, o, fin, l, c, f, q, y, c0, c1, c2, c3, c4, c5, c6, c7⟩ := m
  rcases kind_cases k with rfl | rfl | rfl | rfl | rfl | rfl | rfl | rfl | rfl | rfl | rfl | rfl | rfl | rfl | rfl | rfl | rfl | hx
  all_goals first
    | (simp [sameB, askN, askDs, askRs, FN.zero, cidB]; done)
    | (simp only [beq_eq_false_iff_ne] at hx
       simp [sameB, askN, askDs, askRs, FN.zero, cidB, hx])
theorem enc_ge : ∀ L : List FR, L.all FR.right = true → L.length ≤ (encS L).length
  | [], _ => by simp
  | x :: t, h => by
    simp only [List.all_cons, Bool.and_eq_true] at h
    have h1 := one_pos x.m x.ds x.rs h.1
    have h2 := enc_ge t h.2
    have e : encS (x :: t) = oneS x.m x.ds x.rs ++ encS t := by simp [encS]
    rw [e, List.length_append, List.length_cons]; omega
theorem enc_drop (L : List FR) (j : Nat) (x : FR) (h : L[j]? = some x) : encS (L.drop j) = oneS x.m x.ds x.rs ++ encS (L.drop (j + 1)) := by
  obtain ⟨hk, e⟩ := List.getElem?_eq_some_iff.1 h
  rw [List.drop_eq_getElem_cons hk, e]; simp [encS]
theorem all_drop (L : List FR) (j : Nat) (h : L.all FR.right = true) : (L.drop j).all FR.right = true := by
  rw [List.all_eq_true] at h ⊢
  exact fun x hx => h x (List.mem_of_mem_drop hx)
def pingF : FR := ⟨FN.zero 1, .nil, .nil, [], []⟩
theorem ping_right : rightB (FN.zero 1) [] [] = true := by decide
theorem ping_one : oneS (FN.zero 1) [] [] = [1] := by decide
theorem read_nil : readO ([], false) = none := by decide
theorem Fits.zero_ (w : World) (P : Nat → Prop) (k : Int) (h0 : -9223372036854775808 ≤ k) (h1 : k ≤ 9223372036854775807) : Fits w P (FN.zero k) .nil .nil [] [] := ⟨wf_zero k h0 h1, InD.nil_ _ _, InR.nil_ _ _⟩
theorem ping_text : strOfNums [1] = ⟨#[1]⟩ := rfl
theorem one_frs (w : World) (x : FR) (P : Nat → Prop) (g : Nat) (hA : At w g 31 (frL x.m x.d x.r)) (hP : P g) (hf : Fits w P x.m x.d x.r x.ds x.rs) : FrsP w P (some ⟨g, 0, none⟩) 1 [x] := by
  refine ⟨rfl, fun _ => ⟨g, 0, rfl, hA.lt, hP, fun i y hy => ?_⟩, fun y hy => by simp at hy; subst hy; exact hf⟩
  match i with
  | 0 => simp at hy; subst hy; exact hA.rangeAt
  | i + 1 => simp at hy
set_option maxRecDepth 100000 in
set_option maxHeartbeats 1000000 in
theorem fknown_any (w : World) : Calls Try.prog 14 #[] w (FrPost (.bool true) w) := by
  have hSZ := Lib.hid (fun W => fsize_any (fun _ => True) (FN.zero 1) .nil .nil [] [] W (Fits.zero_ _ _ 1 (by decide) (by decide)))
  have hs1 : sizeF (FN.zero 1) [] [] = 1 := by unfold sizeF; rw [if_pos ping_right, ping_one]; rfl
  rw [hs1] at hSZ
  have hA2 := Lib.hid (fun W => fasks_any (FN.zero 2) .nil .nil W)
  have hA1 := Lib.hid (fun W => fasks_any (FN.zero 1) .nil .nil W)
  rw [show asksB (FN.zero 2).k = false from by decide] at hA2
  rw [show asksB (FN.zero 1).k = true from by decide] at hA1
  have hC := At.new w 31 (frL (FN.zero 1) .nil .nil)
  have hE := encode_any (fun _ => True) (some ⟨w.heap.size, 0, none⟩) 1 1 [pingF] (w.alloc (.cells (frL (FN.zero 1) .nil .nil).toArray 31)) (one_frs _ pingF _ _ hC trivial (Fits.zero_ _ _ 1 (by decide) (by decide))) (by decide) (by decide)
  have HE := Lib.hid hE
  have hb0 : Below w.heap.size w (w.alloc (.cells (frL (FN.zero 1) .nil .nil).toArray 31)) := (Below.refl _ _).alloc (Nat.le_refl _) _
  clear hE hC hs1
  go_enter Try.func14, Try.ntmps14
  go_wp2_with (first | (refine wpList_bs1 (frL (FN.zero 1) .nil .nil) w.heap.size rfl (by rfl) rfl ?_) | fail)
  refine HE.out.mono ?_
  rintro e w1 ⟨h1, h2, hb1⟩
  obtain ⟨v, rfl, hown⟩ := h1 (by simp [pingF, FR.right, ping_right])
  have hen : encS [pingF] = [1] := by simp [encS, pingF, ping_one]
  rw [hen] at hown
  obtain ⟨A, c, rfl, hc1, hc2, hr⟩ := hown.open_n 1 rfl
  have hb1 := hb0.trans (hb1.mono hb0.size)
  clear h2 h1 HE hown hb0 hen
  go_wp2_with fail
  refine (decode_any none 0 0 [] w1 (Rd.none_ _ _ _) (by decide) (fun _ => rfl)).mono ?_
  intro e w2 hpost
  unfold DecPost at hpost
  rw [read_nil] at hpost
  obtain ⟨rfl, hb2⟩ := hpost
  have hb12 := hb1.trans (hb2.mono hb1.size)
  have hb3 := hb12.alloc hb12.size (.cells (frL (FN.zero 0) .nil .nil).toArray 31)
  have hr3 := (hr.below hb2).alloc hb2.size (.cells (frL (FN.zero 0) .nil .nil).toArray 31)
  obtain ⟨w3, hw3⟩ : ∃ x, w2.alloc (.cells (frL (FN.zero 0) .nil .nil).toArray 31) = x := ⟨_, rfl⟩
  rw [hw3] at hb3 hr3
  have ht := run_text (P := Try.prog) (c := c) hr3 26 5 9 Try.underlying26 Try.underlying5 Try.underlying9
  rw [ping_text] at ht
  clear hb12 hb2 hb1 hr
  go_wp2_with (first | ((with_reducible refine at_st (x := .tmp 3) ?_); refine st_top w2 (frL (FN.zero 0) .nil .nil) (frL (FN.zero 0) .nil .nil) (by rfl) _ (by rfl) (by rfl) (by rfl) rfl rfl (by rfl) ?_; rw [hw3]; clear hw3) | fail)
  refine (hA2.out _).mono ?_
  rintro e w4 ⟨rfl, hb4⟩
  have hb4 := hb3.trans (hb4.mono hb3.size)
  go_wp2_with fail
  refine (hA1.out _).mono ?_
  rintro e w5 ⟨rfl, hb5⟩
  have hb5 := hb4.trans (hb5.mono hb4.size)
  go_wp2_with fail
  refine (hSZ.out _).mono ?_
  rintro e w6 ⟨rfl, hb6⟩
  have hb6 := hb5.trans (hb6.mono hb5.size)
  go_wp2_with fail
  go_ret
  exact ⟨rfl, hb6⟩
end
section
set_option linter.unusedVariables false
set_option linter.unusedSimpArgs false
open Go.RowKit Go.ChangeShapes Go.WideShapes Go.Deep
theorem encS_one (x : FR) : encS [x] = oneS x.m x.ds x.rs := by simp [encS]
theorem encS_rep (x : FR) (j : Nat) : encS (List.replicate (j + 1) x) = encS (List.replicate j x) ++ oneS x.m x.ds x.rs := by
  rw [List.replicate_succ']; simp [encS]
theorem rep_right (x : FR) (h : x.right = true) (j : Nat) : (List.replicate j x).all FR.right = true := by
  rw [List.all_eq_true]
  intro y hy
  rw [(List.mem_replicate.1 hy).2]; exact h
theorem all_rep (x : FR) (h : x.right = true) (hw : x.m.wf) (k : Nat) (hk : 0 < k) : allO ((encS (List.replicate k x)).length + 1) (encS (List.replicate k x), false) = some ((List.replicate k x).map FR.asked) := by
  refine all_enc _ _ (fun e => ?_) ?_ (rep_right x h k) (fun y hy => by rw [(List.mem_replicate.1 hy).2]; exact hw)
  · have := congrArg List.length e; simp at this; omega
  · have := enc_ge (List.replicate k x) (rep_right x h k); omega
theorem rep_fd (x : FR) (k : Nat) (M : List FR) (h : M.map FR.fd = (List.replicate k x).map FR.asked) : M.length = k ∧ ∀ (i : Nat) (y : FR), M[i]? = some y → y.fd = x.asked := by
  constructor
  · have := congrArg List.length h; simpa using this
  · intro i y hy
    have h1 : (M.map FR.fd)[i]? = some y.fd := by rw [List.getElem?_map, hy]; rfl
    rw [h, List.map_replicate] at h1
    have := List.getElem?_replicate (a := x.asked) (n := k) (i := i)
    rw [this] at h1
    split at h1
    · injection h1 with h1; exact h1.symm
    · cases h1
theorem Own.inRow_ {w : World} {base n c : Nat} {e : TypeId} {A : Option Addr} {bs : List Int} {k : Nat} (h : Own w base e (.slice A n c) bs) (hk : bs.length = k) : Rd w w.heap.size A n bs ∧ n ≤ c ∧ c ≤ maxLen ∧ (A = none → c = 0) := by
  have h0 := h.nil_cap
  obtain ⟨A', c', hv, h1, h2, h3⟩ := h.open_
  injection hv with e1 e2 e3
  subst e1; subst e3
  rw [e2]
  exact ⟨h3, h1, h2, h0⟩
set_option maxRecDepth 100000 in
set_option maxHeartbeats 8000000 in
theorem fcuts_walk (x : FX) (cut times : Int) (w : World) (hX : x.ok w (fun _ => True)) (bc : -9223372036854775808 ≤ cut ∧ cut ≤ 9223372036854775807) (bt : -9223372036854775808 ≤ times ∧ times ≤ 9223372036854775807) :
    Calls Try.prog 6 #[.agg x.l.toArray, .int .i64 cut, .int .i64 times] w fun e w'' => e = .returned (.bool true) ∧ Below w.heap.size w w'' := by
  obtain ⟨i0, hi, hz0, hz1, hz2⟩ := info_parts u8_info
  have hB0 : Below w.heap.size w (w.alloc (.cells x.l.toArray 55)) := (Below.refl _ _).alloc (Nat.le_refl _) _
  have hX0 : At (w.alloc (.cells x.l.toArray 55)) w.heap.size 55 x.l := At.new w _ _
  have hx0 : x.ok (w.alloc (.cells x.l.toArray 55)) (fun _ => True) := FIn.kept hX ((Kept.refl (fun _ => False) w).alloc _) (fun _ _ h => h)
  have HK := Lib.hid (kframe_fx (fun _ => True) x _ (fun _ _ => trivial) hx0)
  obtain ⟨XL, hXL⟩ : ∃ y, x.l = y := ⟨_, rfl⟩
  have hXl : XL.length = 8 := by rw [← hXL]; rfl
  rw [hXL] at hB0 hX0 HK ⊢
  have HXl := Lib.hid hXl
  clear hx0 hX hXL hXl
  go_enter Try.func6, Try.ntmps6
  go_wp2_with (first | ((with_reducible refine at_ldf ?_); refine ld_fx w.heap.size 0 XL (by rfl) (by rfl) hX0.rangeAt HXl.out ?_) | fail)
  refine HK.out.mono ?_
  rintro e w1 ⟨m, d, r, ds, rs, rfl, hf1, hrt, hb1⟩
  have hB1 := hB0.trans (hb1.mono hB0.size)
  obtain ⟨fr, hfr⟩ : ∃ y : FR, y = ⟨m, d, r, ds, rs⟩ := ⟨_, rfl⟩
  obtain ⟨F, hF⟩ : ∃ F, frL m d r = F := ⟨_, rfl⟩
  have hFl : F.length = 19 := by rw [← hF]; rfl
  have hFo : F.all (·.oneCell') = true := by rw [← hF]; rfl
  have hFv : frV m d r = .agg F.toArray := by rw [← hF]; rfl
  have hwf := hf1.wf
  have hone : encS [fr] = oneS m ds rs := by rw [encS_one, hfr]
  have hpos := one_pos m ds rs hrt
  have hle : (oneS m ds rs).length ≤ 808 := by have := encS_len [fr] (by rw [hfr]; simp [FR.right, hrt]); rw [hone] at this; simpa using this
  have hsz : sizeF m ds rs = ((oneS m ds rs).length : Int) := by unfold sizeF; exact if_pos hrt
  have hcutn := fun q hq => one_cut m ds rs hwf hrt q hq
  have hrp := fun j => encS_rep fr j
  rw [hfr] at hrp
  simp only at hrp
  have hall := fun k hk => all_rep fr (by rw [hfr]; exact hrt) (by rw [hfr]; exact hwf) k hk
  have hsb := (sameB_ask m ds rs).1
  have hfsz := fun W h => fsize_any (fun _ => True) m d r ds rs W h
  rw [hsz] at hfsz
  obtain ⟨E, hE⟩ : ∃ y, oneS m ds rs = y := ⟨_, rfl⟩
  rw [hE] at hone hpos hle hfsz hcutn hrp
  obtain ⟨N, hN⟩ : ∃ y, E.length = y := ⟨_, rfl⟩
  rw [hN] at hpos hle hfsz hcutn
  rw [hFv] at hfsz ⊢
  have HFl := Lib.hid hFl
  have HFo := Lib.hid hFo
  have HFv := Lib.hid hFv
  have HF := Lib.hid hF
  have HN := Lib.hid hN
  have HE := Lib.hid hE
  have HONE := Lib.hid hone
  have HSZ := Lib.hid hfsz
  have HCUT := Lib.hid hcutn
  have HALL := Lib.hid hall
  have HRP := Lib.hid hrp
  have HSB := Lib.hid hsb
  have HRT := Lib.hid hrt
  have HFR := Lib.hid hfr
  have hA2 := At.new w1 31 F
  have hbA : Below w1.heap.size w1 (w1.alloc (.cells F.toArray 31)) := (Below.refl _ _).alloc (Nat.le_refl _) _
  obtain ⟨w2, hw2⟩ : ∃ y, w1.alloc (.cells F.toArray 31) = y := ⟨_, rfl⟩
  rw [hw2] at hA2 hbA
  have hf2 := hf1.below hbA
  have hB2 := hB1.trans (hbA.mono hB1.size)
  obtain ⟨g7, hg7⟩ : ∃ y, w1.heap.size = y := ⟨_, rfl⟩
  rw [hg7] at hA2
  have hA3 := hA2.alloc (.cells F.toArray 31)
  have hC3 : At (w2.alloc (.cells F.toArray 31)) w2.heap.size 31 (frL fr.m fr.d fr.r) := by rw [hfr]; simp only; rw [hF]; exact At.new w2 _ _
  have hb3 : Below w2.heap.size w2 (w2.alloc (.cells F.toArray 31)) := (Below.refl _ _).alloc (Nat.le_refl _) _
  obtain ⟨w3, hw3⟩ : ∃ y, w2.alloc (.cells F.toArray 31) = y := ⟨_, rfl⟩
  rw [hw3] at hA3 hC3 hb3
  have hf3 := hf2.below hb3
  have hB3 := hB2.trans (hb3.mono hB2.size)
  obtain ⟨g25, hg25⟩ : ∃ y, w2.heap.size = y := ⟨_, rfl⟩
  rw [hg25] at hC3
  have hfrs := one_frs w3 fr (fun _ => True) g25 hC3 trivial (by rw [hfr]; exact hf3)
  have HENC := Lib.hid (encode_any (fun _ => True) (some ⟨g25, 0, none⟩) 1 1 [fr] w3 hfrs (by decide) (by decide))
  clear hfr hF hFl hFo hFv hwf hone hsz hcutn hrp hall hsb hfsz hE hN hb1 HK hf1 hbA hf2 hB1 hB2 hb3 hC3 hfrs hB0 hX0 hrt
  go_wp2_with (first | ((with_reducible refine at_st (x := .tmp 7) ?_); refine st_top w1 _ F (by rfl) _ (by rfl) hg7.symm (by rfl) (by rfl) HFl.out HFo.out ?_; rw [hw2]; clear hw2) | ((with_reducible refine at_ld (x := .tmp 7) ?_); refine ld_fr_g _ _ (by rfl) (by rfl) hA2 HFl.out ?_) | (refine wpList_bs1 F g25 hg25.symm (by rfl) HFl.out ?_) | fail)
  refine HENC.out.mono ?_
  rintro e w4 ⟨h1, _, hb4⟩
  obtain ⟨v, rfl, hown⟩ := h1 (by rw [HFR.out]; simp [FR.right, HRT.out])
  rw [HONE.out] at hown
  obtain ⟨A4, c4, rfl, q1, q2, hr4⟩ := hown.open_n N HN.out
  obtain ⟨b4, off4, rfl, _, _⟩ := hr4.2.2 hpos
  have q2' := q2
  unfold maxLen at q2'
  have hA4 := hA3.below hb4 hA3.lt
  have hf4 := hf3.below hb4
  have hB4 := hB3.trans (hb4.mono hB3.size)
  have hN0 : ((N : Int) == 0) = false := beq_eq_false_iff_ne.2 (by omega)
  clear h1 hown hb4 hA3 hf3 hB3 HENC
  go_wp2_with (first | ((with_reducible refine at_ld (x := .tmp 7) ?_); refine ld_fr_g _ _ (by rfl) (by rfl) hA4 HFl.out ?_) | fail)
  refine (HSZ.out _ hf4).mono ?_
  rintro e w5 ⟨rfl, hb5⟩
  have hA5 := hA4.below hb5 hA4.lt
  have hf5 := hf4.below hb5
  have hB5 := hB4.trans (hb5.mono hB4.size)
  have hr5 := (hr4.below hb5).more hb5.size
  have hwb := withinS_bd cut 0 ((N : Int) - 1) (by omega)
  have hwi := fun W => within_any cut 0 ((N : Int) - 1) W bc.1 bc.2 (by omega) (by omega) (by omega)
  obtain ⟨k, hk⟩ : ∃ k : Nat, withinS cut 0 ((N : Int) - 1) = (k : Int) := ⟨(withinS cut 0 ((N : Int) - 1)).toNat, by omega⟩
  rw [hk] at hwb hwi
  have hkN : k < N := by omega
  have HWI := Lib.hid hwi
  clear hb5 hA4 hf4 hB4 hr4 hwi hk
  go_wp2_with fail
  refine (HWI.out _).mono ?_
  rintro e w6 ⟨rfl, rfl⟩
  have hdec := decode_any (some ⟨b4, off4, none⟩) k c4 (E.take k) w5 (hr5.cut (by omega)) (by omega) (fun h => by cases h)
  go_wp2_with fail
  refine hdec.mono ?_
  intro e w6 hpost
  unfold DecPost at hpost
  rw [HCUT.out k hkN] at hpost
  obtain ⟨rfl, hb6⟩ := hpost
  have hA6 := hA5.below hb6 hA5.lt
  have hf6 := hf5.below hb6
  have hB6 := hB5.trans (hb6.mono hB5.size)
  have hr6 := (hr5.below hb6).more hb6.size
  obtain ⟨Z, hZ⟩ : ∃ L, frL (FN.zero 0) .nil .nil = L := ⟨_, rfl⟩
  have hZl : Z.length = 19 := by rw [← hZ]; rfl
  have hZo : Z.all (·.oneCell') = true := by rw [← hZ]; rfl
  have hZv : frV (FN.zero 0) .nil .nil = .agg Z.toArray := by rw [← hZ]; rfl
  rw [hZv]
  have HZl := Lib.hid hZl
  have HZo := Lib.hid hZo
  have hb7 : Below w6.heap.size w6 (w6.alloc (.cells Z.toArray 31)) := (Below.refl _ _).alloc (Nat.le_refl _) _
  obtain ⟨w7, hw7⟩ : ∃ y, w6.alloc (.cells Z.toArray 31) = y := ⟨_, rfl⟩
  rw [hw7] at hb7
  have hA7 := hA6.below hb7 hA6.lt
  have hf7 := hf6.below hb7
  have hB7 := hB6.trans (hb7.mono hB6.size)
  have hr7 := (hr6.below hb7).more hb7.size
  clear hb6 hA5 hf5 hB5 hr5 hZ hZl hZo hZv hb7 hA6 hf6 hB6 hr6 hdec HWI
  go_wp2_with (first | ((with_reducible refine at_st (x := .tmp 10) ?_); refine st_top w6 _ Z (by rfl) _ (by rfl) (by rfl) (by rfl) (by rfl) HZl.out HZo.out ?_; rw [hw7]; clear hw7) | fail)
  refine (within_any times 1 5 _ bt.1 bt.2 (by decide) (by decide) (by decide)).mono ?_
  rintro e w8 ⟨rfl, rfl⟩
  have hkb := withinS_bd times 1 5 (by decide)
  obtain ⟨kq, hkq⟩ : ∃ k, withinS times 1 5 = k := ⟨_, rfl⟩
  rw [hkq] at hkb ⊢
  obtain ⟨kk, rfl⟩ := Int.eq_ofNat_of_zero_le (show 0 ≤ kq by omega)
  have hk1 : 1 ≤ kk := by omega
  have hk5 : kk ≤ 5 := by omega
  clear hkq hkb
  have HJ := Lib.hid (And.intro (Below.refl w7.heap.size w7) (Own.none_ w7 w7.heap.size 5))
  go_wp2_with fail
  go_loopw [14, 15] (fun v i wr => ∃ j : Nat, j ≤ kk ∧ i = .int .i64 j ∧ (∃ A n c, v = .slice A n c) ∧ Hid (Below w7.heap.size w7 wr ∧ Own wr w7.heap.size 5 v (encS (List.replicate j fr)) ∧ (encS (List.replicate j fr)).length = j * N)) (fun _ i _ => kk - (intOf i).toNat)
  case atStart => exact ⟨0, by omega, rfl, ⟨_, _, _, rfl⟩, Lib.hid ⟨HJ.out.1, HJ.out.2, by simp [encS]⟩⟩
  case round =>
    obtain ⟨j, hj, rfl, ⟨aA, an, ac, rfl⟩, hst⟩ := hrel
    obtain ⟨wl, rfl⟩ : ∃ wl : World, wl = wr := ⟨_, rfl⟩
    obtain ⟨hbl, hown, hlen⟩ := hst.out
    clear hst HJ
    have hsl := hbl.size
    by_cases hjk : j < kk
    · have hjI : (j : Int) < kk := by omega
      have hrl := (hr7.below hbl).more hsl
      have hjN : j * N ≤ 5 * 808 := Nat.mul_le_mul (by omega) hle
      have hln : (encS (List.replicate j fr)).length + N ≤ 140737488355328 := by omega
      go_wp2_with (first | (at_builtin; refine wpList_append_at rfl (.tmp 62) (.tmp 63) 26 rfl w7.heap.size 5 i0 Try.underlying26 hi hz0 hz1 hz2 _ _ rfl hown _ (some ⟨b4, off4, none⟩) N c4 E rfl hrl hln hsl ?_; intro v2 x2 hO2 hg2 _) | fail)
      have hb2 : Below w7.heap.size w7 x2 := (Kept.of_grown (S := fun q => w7.heap.size ≤ q) hg2 (fun k hk => .inl (hown.block_lt k hk).1)).below hbl hsl (fun q hq => hq)
      obtain ⟨a2, m2, c2, rfl⟩ := hO2.shape
      go_roundw
      case rel => exact ⟨j + 1, by omega, by go_num, ⟨_, _, _, rfl⟩, Lib.hid ⟨hb2, by
        have h9 := HRP.out j
        rw [← HFR.out] at h9
        rw [h9]; exact hO2, by
        have h9 := HRP.out j
        rw [← HFR.out] at h9
        rw [h9, List.length_append, hlen, HN.out, Nat.succ_mul]⟩⟩
      case measure => simp [intOf]; omega
    · have ejk : kk = j := by omega
      subst ejk
      have hrl := hown.inRow_ hlen
      obtain ⟨hrr, hl7, hm7, hnil7⟩ := hrl
      have han : an = kk * N := by have := hown.len_eq; omega
      have hjN : kk * N ≤ 5 * 808 := Nat.mul_le_mul hk5 hle
      have hall := HALL.out kk hk1
      obtain ⟨ES, hES⟩ : ∃ y, encS (List.replicate kk fr) = y := ⟨_, rfl⟩
      rw [hES] at hall hrr
      have HPA := Lib.hid (all_any aA an ac ES wl hrr (by omega) hnil7)
      have HALK := Lib.hid hall
      have hAl := hA7.below hbl hA7.lt
      have hfl := hf7.below hbl
      have hBl := hB7.trans (hbl.mono hB7.size)
      clear hown hlen hrr hES hall hA7 hf7 hB7 hr7 hjN han
      go_wp2_with fail
      refine HPA.out.mono ?_
      intro e w9 hpost
      unfold AllPost at hpost
      rw [HALK.out] at hpost
      obtain ⟨⟨A9, n9, c9, M, rfl, hfm, hm1, hm2, hmap⟩, hb9⟩ := hpost
      obtain ⟨hMk, hMy⟩ := rep_fd fr kk M hmap
      obtain rfl : n9 = kk := by rw [← hfm.1]; exact hMk
      obtain ⟨b9, off9, rfl, hb9l, _, hcl9⟩ := hfm.2.1 (by omega)
      have hfit9 := hfm.2.2
      have hA9 := hAl.below hb9 hAl.lt
      have hf9 := hfl.below hb9
      have hB9 := hBl.trans (hb9.mono hBl.size)
      unfold maxLen at hm2
      have hSM : ∀ (i : Nat) (y : FR) (W : World), M[i]? = some y → Below w9.heap.size w9 W → Calls Try.prog 9 #[frV y.m y.d y.r, .agg F.toArray] W (FrPost (.bool true) W) := by
        intro i y W hy hbW
        have hmem := List.mem_of_getElem? hy
        have h1 := hMy i y hy
        have h2 := (hfit9 y hmem).kept (Kept.of_below hbW (fun _ => False)) (fun _ _ h => h)
        have h3 := hf9.kept (Kept.of_below hbW (fun _ => False)) (fun _ _ h => h)
        obtain ⟨ym, yd, yr, yds, yrs⟩ := y
        have h4 : (ym, yds, yrs) = (askN m, askDs m.k ds, askRs m.k rs) := by rw [HFR.out] at h1; exact h1
        injection h4 with e1 e2
        injection e2 with e2 e3
        subst e1; subst e2; subst e3
        have h5 := fsame2_any (fun _ => True) (askN m) m yd yr d r (askDs m.k ds) ds (askRs m.k rs) rs W (Fits.mono h2 (fun _ _ _ => trivial)) (Fits.mono h3 (fun _ _ _ => trivial))
        rw [HSB.out, HFv.out] at h5
        exact h5
      have HSM := Lib.hid hSM
      have HCL := Lib.hid hcl9
      have HMK := Lib.hid hMk
      have HJ2 := Lib.hid (Below.refl w9.heap.size w9)
      clear hSM hcl9 hMk hMy hfit9 hfm hmap HPA HALK hb9 hAl hfl hBl hbl
      go_wp2_with fail
      go_loopw [18] (fun i wr => ∃ j : Nat, j ≤ n9 ∧ i = .int .i64 j ∧ Hid (Below w9.heap.size w9 wr)) (fun i _ => n9 - (intOf i).toNat)
      case atStart => exact ⟨0, by omega, rfl, HJ2⟩
      case round =>
        obtain ⟨j, hj, rfl, hst⟩ := hrel
        obtain ⟨wq, rfl⟩ : ∃ wq : World, wq = wr := ⟨_, rfl⟩
        have hbq := hst.out
        clear hst HJ2
        by_cases hjk : j < n9
        · have hjI : (j : Int) < n9 := by omega
          obtain ⟨y, hy⟩ : ∃ y, M[j]? = some y := ⟨_, List.getElem?_eq_getElem (by rw [HMK.out]; exact hjk)⟩
          have hra := rangeAt_kept (HCL.out j y hy) (Kept.of_below hbq (fun _ => False)) hb9l (fun h => h)
          have hsm := HSM.out j y wq.drew hy (belowN hbq 1)
          obtain ⟨Y, hY⟩ : ∃ Y, frL y.m y.d y.r = Y := ⟨_, rfl⟩
          have hYl : Y.length = 19 := by rw [← hY]; rfl
          have hYv : frV y.m y.d y.r = .agg Y.toArray := by rw [← hY]; rfl
          rw [hY] at hra
          rw [hYv] at hsm
          have HYl := Lib.hid hYl
          have hAq := hA9.below hbq hA9.lt
          clear hY hYl hYv hy
          go_upto_region 18 with fail
          have hrad : wq.drew.rangeAt b9 (off9 + j * 19) Y := hra
          have hAqd : At wq.drew g7 31 F := hAq.drew
          have hbqd : Below w9.heap.size w9 wq.drew := belowN hbq 1
          refine wp_region_held_drew (S := (fun W => W.rangeAt b9 (off9 + j * 19) Y ∧ W.rangeAt g7 0 F)) (by kernel_rfl) (⟨hrad, hAqd.rangeAt⟩) (fun hHeld => ?_)
          refine tk_dst (i := 0) (dst := some 91) rfl rfl (by kernel_rfl) (by kernel_rfl) (by kernel_rfl) (fun _ _ _ h => h) (v := ?_) (Or.inl ⟨by rfl, ?_⟩) (by assumption) ?_
          rotate_left
          · intro w hSw; (try dsimp only at hSw); go_simp; first | done | (with_reducible rfl)
          simp only [Act.put, List.setIfInBounds_toArray, List.set_cons_zero, List.set_cons_succ]
          refine tk_dst (i := 1) (dst := some 92) rfl rfl (by kernel_rfl) (by kernel_rfl) (by kernel_rfl) (fun _ _ _ h => h) (v := ?_) (Or.inl ⟨by rfl, ?_⟩) (by assumption) ?_
          rotate_left
          · intro w hSw; (try dsimp only at hSw); go_simp; first | done | (with_reducible rfl)
          simp only [Act.put, List.setIfInBounds_toArray, List.set_cons_zero, List.set_cons_succ]
          refine tk_dst (i := 2) (dst := some 93) rfl rfl (by kernel_rfl) (by kernel_rfl) (by kernel_rfl) (fun _ _ _ h => h) (v := ?_) (Or.inl ⟨by rfl, ?_⟩) (by assumption) ?_
          rotate_left
          · intro w hSw; (try dsimp only at hSw); go_simp; first | done | (with_reducible rfl)
          simp only [Act.put, List.setIfInBounds_toArray, List.set_cons_zero, List.set_cons_succ]
          refine tk_dst (i := 3) (dst := some 94) rfl rfl (by kernel_rfl) (by kernel_rfl) (by kernel_rfl) (fun _ _ _ h => h) (v := ?_) ?_ (by assumption) ?_
          rotate_left
          · refine yl_any 31 ?ylx3 ?ylo3 ?ylb3 ?ylq3 ?ylp3 Y _ ?ylS3 Try.underlying31 rfl ?yli3 ?ylw3
            case ylo3 => rfl
            case ylp3 => rfl
            case ylS3 => intro w hSw; exact hSw.1
            case yli3 => rw [HYl.out]; exact fr_info
            case ylw3 => rfl
          simp only [Act.put, List.setIfInBounds_toArray, List.set_cons_zero, List.set_cons_succ]
          refine tk_dst (i := 4) (dst := some 95) rfl rfl (by kernel_rfl) (by kernel_rfl) (by kernel_rfl) (fun _ _ _ h => h) (v := ?_) ?_ (by assumption) ?_
          rotate_left
          · refine yl_any 31 ?ylx4 ?ylo4 ?ylb4 ?ylq4 ?ylp4 F _ ?ylS4 Try.underlying31 rfl ?yli4 ?ylw4
            case ylo4 => rfl
            case ylp4 => rfl
            case ylS4 => intro w hSw; exact hSw.2
            case yli4 => rw [HFl.out]; exact fr_info
            case ylw4 => rfl
          simp only [Act.put, List.setIfInBounds_toArray, List.set_cons_zero, List.set_cons_succ]
          refine wpAnyH_ready (rs := [5]) (by kernel_rfl) (by simp) ?_
          refine AllReadyH.cons rfl (fun K hK => ?_) AllReadyH.nil
          go_simp
          go_wp2_with ((go_at_call 9; refine hsm.mono ?_; rintro e x5 ⟨rfl, hb5⟩; have hbe := hbqd.trans (hb5.mono hbqd.size)))
          refine hK.out _ _ (⟨rangeAt_kept hrad (Kept.of_below hb5 (fun _ => False)) (by have := hbqd.size; omega) (fun h => h), (hAqd.below hb5 hAqd.lt).rangeAt⟩) (fun hHeld => ?_)
          clear hK K
          refine tk_dst (i := 6) (dst := some 97) rfl rfl (by kernel_rfl) (by kernel_rfl) (by kernel_rfl) (fun _ _ _ h => h) (v := ?_) (Or.inl ⟨by rfl, ?_⟩) (by assumption) ?_
          rotate_left
          · intro w hSw; (try dsimp only at hSw); go_simp; first | done | (with_reducible rfl)
          simp only [Act.put, List.setIfInBounds_toArray, List.set_cons_zero, List.set_cons_succ]
          refine wpAnyH_done (by kernel_rfl) ?_ _
          go_wp2_with fail
          go_roundw
          case rel => exact ⟨j + 1, by omega, by go_num, Lib.hid hbe⟩
          case measure => simp [intOf]; omega
        · obtain rfl : j = n9 := by omega
          have hAq := hA9.below hbq hA9.lt
          have hfq := hf9.below (hbq)
          have hBq := hB9.trans (hbq.mono hB9.size)
          have hj0 : 0 < j := by omega
          obtain ⟨rb1, rb2⟩ := right_bound m ds rs HRT.out
          have hCP := copy2_any (fun _ => True) m d r ds rs wq hfq (by unfold askDs; split; rcases rb2 with h | h; omega; (exfalso; simp_all); simp) (by unfold askRs; split; rcases rb1 with h | h; omega; (exfalso; simp_all); simp)
          rw [HFv.out] at hCP
          have HCP := Lib.hid hCP
          clear hCP rb1 rb2 hfq
          go_wp2_with (first | ((with_reducible refine at_ld (x := .tmp 7) ?_); refine ld_fr_g _ _ (by rfl) (by rfl) hAq HFl.out ?_) | fail)
          refine HCP.out.mono ?_
          rintro e w10 ⟨⟨dA, dn, dc⟩, r', rfl, _, hb10, hown⟩
          obtain ⟨da, hda⟩ : ∃ y, askDs m.k ds = y := ⟨_, rfl⟩
          rw [hda] at hown
          have hdn : da.length = dn := hown.len_eq
          obtain ⟨C, hC⟩ : ∃ C, frL (askN m) ⟨dA, dn, dc⟩ r' = C := ⟨_, rfl⟩
          have hCl : C.length = 19 := by rw [← hC]; rfl
          have hCo : C.all (·.oneCell') = true := by rw [← hC]; rfl
          have hCv : frV (askN m) ⟨dA, dn, dc⟩ r' = .agg C.toArray := by rw [← hC]; rfl
          have hC3 : C[3]? = some (.slice dA dn dc) := by rw [← hC]; rfl
          rw [hCv]
          have HCl := Lib.hid hCl
          have HCo := Lib.hid hCo
          have hC11 := At.new w10 31 C
          have hb11 : Below w10.heap.size w10 (w10.alloc (.cells C.toArray 31)) := (Below.refl _ _).alloc (Nat.le_refl _) _
          have hown11 := hown.alloc (.cells C.toArray 31)
          obtain ⟨w11, hw11⟩ : ∃ y, w10.alloc (.cells C.toArray 31) = y := ⟨_, rfl⟩
          rw [hw11] at hC11 hb11 hown11
          have hbS := hb10.trans (hb11.mono hb10.size)
          have hbq11 := hbq.trans (hbS.mono hbq.size)
          have hA11 := hAq.below hbS hAq.lt
          have hB11 := hBq.trans (hbS.mono hBq.size)
          have hvl := hown.block_lt
          obtain ⟨g19, hg19⟩ : ∃ y, w10.heap.size = y := ⟨_, rfl⟩
          rw [hg19] at hC11 hvl
          have hg19b : g19 < w11.heap.size := hC11.lt
          have hqs := hbq.size
          have hAql := hAq.lt
          have HJ3 := Lib.hid (And.intro (Kept.refl (fun q => (Value.slice dA dn dc).ownBlock = some q) w11) (⟨da, hown11, hdn⟩ : ∃ ys, Own w11 wq.heap.size 5 (.slice dA dn dc) ys ∧ ys.length = dn))
          have hdm : dn ≤ dc ∧ dc ≤ maxLen := ⟨(hown.inRow_ rfl).2.1, (hown.inRow_ rfl).2.2.1⟩
          have hdm2 := hdm.2
          unfold maxLen at hdm2
          clear hown hown11 hb10 hb11 hC hCl hCo hCv hbS hAq hda HCP
          go_wp2_with (first | ((with_reducible refine at_st (x := .tmp 19) ?_); refine st_top w10 _ C (by rfl) _ (by rfl) hg19.symm (by rfl) (by rfl) HCl.out HCo.out ?_; rw [hw11]; clear hw11) | fail)
          go_loopw [20] (fun i wr => ∃ j : Nat, j ≤ dn ∧ i = .int .i64 j ∧ Hid (Kept (fun q => (Value.slice dA dn dc).ownBlock = some q) w11 wr ∧ ∃ ys, Own wr wq.heap.size 5 (.slice dA dn dc) ys ∧ ys.length = dn)) (fun i _ => dn - (intOf i).toNat)
          case atStart => exact ⟨0, by omega, rfl, HJ3⟩
          case round =>
            obtain ⟨j, hj, rfl, hst⟩ := hrel
            obtain ⟨wt, rfl⟩ : ∃ wt : World, wt = wr := ⟨_, rfl⟩
            obtain ⟨hkt, ys, hot, hyl⟩ := hst.out
            clear hst HJ3
            have hCt := hC11.kept hkt (fun e => by have := (hvl _ e).2; omega)
            have c3 := (hCt.cell 3).trans hC3
            by_cases hjd : j < dn
            · have hjI : (j : Int) < dn := by omega
              obtain ⟨gD, cD, lD, hvD, hAD, hlD, htD, hbD, hnD, hmD⟩ := hot.place (by omega)
              injection hvD with e1 e2 e3
              subst e1; subst e3
              clear e2
              have HYL := Lib.hid hyl
              have hbyt := hot.byt
              obtain ⟨yj, hyj⟩ : ∃ y, ys[j]? = some y := ⟨_, List.getElem?_eq_getElem (by omega)⟩
              have y0 := place_cell hAD htD j yj hyj
              have fy := hAD.frozen j
              have hzb := u8_wrap_bd (yj + 1)
              obtain ⟨zj, hzj⟩ : ∃ z, IntKind.u8.wrap (yj + 1) = z := ⟨_, rfl⟩
              rw [hzj] at hzb
              have hset := place_set hAD hlD htD hbyt hbD hnD hmD j zj hzb
              rw [hyl] at hset
              have hk2 := hkt.trans ((Kept.refl (fun q => (Value.slice (some ⟨gD, 0, none⟩) dn dc).ownBlock = some q) wt).setCell (p := ⟨gD, j, none⟩) (.inl rfl) (.int .u8 zj))
              obtain ⟨wv, hwv⟩ : ∃ y, wt.setCell ⟨gD, j, none⟩ (.int .u8 zj) = y := ⟨_, rfl⟩
              rw [hwv] at hset hk2
              have HNX : Hid (Kept (fun q => (Value.slice (some ⟨gD, 0, none⟩) dn dc).ownBlock = some q) w11 wv ∧ ∃ ys, Own wv wq.heap.size 5 (.slice (some ⟨gD, 0, none⟩) dn dc) ys ∧ ys.length = dn) := Lib.hid ⟨hk2, _, hset, by rw [List.length_set]; exact hyl⟩
              clear hset hk2 hAD htD hlD hbyt hot hyl hyj
              go_wp2_with fail
              go_roundw
              case rel => exact ⟨j + 1, by omega, by go_num, HNX⟩
              case measure => simp [intOf]; omega
            · obtain rfl : j = dn := by omega
              have hbt := hkt.below hbq11 hbq11.size (fun q hq => by have := (hvl _ hq).1; omega)
              have hBt := hkt.below hB11 hB11.size (fun q hq => by have := (hvl _ hq).1; have := hBq.size; omega)
              have hAt := hA11.kept hkt (fun e => by have := (hvl _ e).1; omega)
              have hjI : ¬ ((j : Int) < j) := by omega
              obtain ⟨y, hy⟩ : ∃ y, M[0]? = some y := ⟨_, List.getElem?_eq_getElem (by rw [HMK.out]; omega)⟩
              have hra := rangeAt_kept (HCL.out 0 y hy) (Kept.of_below hbt (fun _ => False)) hb9l (fun h => h)
              rw [Nat.zero_mul, Nat.add_zero] at hra
              have hsm := HSM.out 0 y wt.drew hy (belowN hbt 1)
              obtain ⟨Y, hY⟩ : ∃ Y, frL y.m y.d y.r = Y := ⟨_, rfl⟩
              have hYl : Y.length = 19 := by rw [← hY]; rfl
              have hYv : frV y.m y.d y.r = .agg Y.toArray := by rw [← hY]; rfl
              rw [hY] at hra
              rw [hYv] at hsm
              have HYl := Lib.hid hYl
              clear hY hYl hYv hy hot
              go_upto_region 25 with fail
              have hrad : wt.drew.rangeAt b9 off9 Y := hra
              have hAqd : At wt.drew g7 31 F := hAt.drew
              have hbqd : Below w9.heap.size w9 wt.drew := belowN hbt 1
              have hBqd : Below w.heap.size w wt.drew := belowN hBt 1
              refine wp_region_held_drew (S := (fun W => W.rangeAt b9 off9 Y ∧ W.rangeAt g7 0 F)) (by kernel_rfl) (⟨hrad, hAqd.rangeAt⟩) (fun hHeld => ?_)
              refine tk_dst (i := 0) (dst := some 114) rfl rfl (by kernel_rfl) (by kernel_rfl) (by kernel_rfl) (fun _ _ _ h => h) (v := ?_) (Or.inl ⟨by rfl, ?_⟩) (by assumption) ?_
              rotate_left
              · intro w hSw; (try dsimp only at hSw); go_simp; first | done | (with_reducible rfl)
              simp only [Act.put, List.setIfInBounds_toArray, List.set_cons_zero, List.set_cons_succ]
              refine tk_dst (i := 1) (dst := some 115) rfl rfl (by kernel_rfl) (by kernel_rfl) (by kernel_rfl) (fun _ _ _ h => h) (v := ?_) (Or.inl ⟨by rfl, ?_⟩) (by assumption) ?_
              rotate_left
              · intro w hSw; (try dsimp only at hSw); go_simp; first | done | (with_reducible rfl)
              simp only [Act.put, List.setIfInBounds_toArray, List.set_cons_zero, List.set_cons_succ]
              refine tk_dst (i := 2) (dst := some 116) rfl rfl (by kernel_rfl) (by kernel_rfl) (by kernel_rfl) (fun _ _ _ h => h) (v := ?_) ?_ (by assumption) ?_
              rotate_left
              · refine yl_any 31 ?zlx2 ?zlo2 ?zlb2 ?zlq2 ?zlp2 Y _ ?zlS2 Try.underlying31 rfl ?zli2 ?zlw2
                case zlo2 => rfl
                case zlp2 => rfl
                case zlS2 => intro w hSw; exact hSw.1
                case zli2 => rw [HYl.out]; exact fr_info
                case zlw2 => rfl
              simp only [Act.put, List.setIfInBounds_toArray, List.set_cons_zero, List.set_cons_succ]
              refine tk_dst (i := 3) (dst := some 117) rfl rfl (by kernel_rfl) (by kernel_rfl) (by kernel_rfl) (fun _ _ _ h => h) (v := ?_) ?_ (by assumption) ?_
              rotate_left
              · refine yl_any 31 ?zlx3 ?zlo3 ?zlb3 ?zlq3 ?zlp3 F _ ?zlS3 Try.underlying31 rfl ?zli3 ?zlw3
                case zlo3 => rfl
                case zlp3 => rfl
                case zlS3 => intro w hSw; exact hSw.2
                case zli3 => rw [HFl.out]; exact fr_info
                case zlw3 => rfl
              simp only [Act.put, List.setIfInBounds_toArray, List.set_cons_zero, List.set_cons_succ]
              refine wpAnyH_ready (rs := [4]) (by kernel_rfl) (by simp) ?_
              refine AllReadyH.cons rfl (fun K hK => ?_) AllReadyH.nil
              go_simp
              go_wp2_with ((go_at_call 9; refine hsm.mono ?_; rintro e x5 ⟨rfl, hb5⟩; have hbe := hbqd.trans (hb5.mono hbqd.size); have hBe := hBqd.trans (hb5.mono hBqd.size); have hra5 := rangeAt_kept hrad (Kept.of_below hb5 (fun _ => False)) (by have := hbqd.size; omega) (fun h => h); have hA5' := hAqd.below hb5 hAqd.lt))
              refine hK.out _ _ (⟨hra5, hA5'.rangeAt⟩) (fun hHeld => ?_)
              clear hK K
              refine tk_dst (i := 5) (dst := some 119) rfl rfl (by kernel_rfl) (by kernel_rfl) (by kernel_rfl) (fun _ _ _ h => h) (v := ?_) (Or.inl ⟨by rfl, ?_⟩) (by assumption) ?_
              rotate_left
              · intro w hSw; (try dsimp only at hSw); go_simp; first | done | (with_reducible rfl)
              simp only [Act.put, List.setIfInBounds_toArray, List.set_cons_zero, List.set_cons_succ]
              refine wpAnyH_ready (rs := [6]) (by kernel_rfl) (by simp) ?_
              refine AllReadyH.cons rfl (fun K hK => ?_) AllReadyH.nil
              go_simp
              go_wp2_with ((go_at_call 14; refine (fknown_any _).mono ?_; rintro e x6 ⟨rfl, hb6⟩; have hBf := hBe.trans (hb6.mono hBe.size)))
              refine hK.out _ _ (⟨rangeAt_kept hra5 (Kept.of_below hb6 (fun _ => False)) (by have := hbe.size; omega) (fun h => h), (hA5'.below hb6 hA5'.lt).rangeAt⟩) (fun hHeld => ?_)
              clear hK K
              refine tk_dst (i := 7) (dst := some 121) rfl rfl (by kernel_rfl) (by kernel_rfl) (by kernel_rfl) (fun _ _ _ h => h) (v := ?_) (Or.inl ⟨by rfl, ?_⟩) (by assumption) ?_
              rotate_left
              · intro w hSw; (try dsimp only at hSw); go_simp; first | done | (with_reducible rfl)
              simp only [Act.put, List.setIfInBounds_toArray, List.set_cons_zero, List.set_cons_succ]
              refine tk_dst (i := 8) (dst := some 6) rfl rfl (by kernel_rfl) (by kernel_rfl) (by kernel_rfl) (fun _ _ _ h => h) (v := ?_) (Or.inl ⟨by rfl, ?_⟩) (by assumption) ?_
              rotate_left
              · intro w hSw; (try dsimp only at hSw); go_simp; first | done | (with_reducible rfl)
              simp only [Act.put, List.setIfInBounds_toArray, List.set_cons_zero, List.set_cons_succ]
              refine wpAnyH_done (by kernel_rfl) ?_ _
              go_wp2_with fail
              go_ret
              exact ⟨rfl, hBf⟩
theorem fcuts_law (x : FX) (cut times : Int) (w : World) (hX : x.ok w (fun _ => True)) (hc : (Lit.int .i64 cut).wf = true) (ht : (Lit.int .i64 times).wf = true) :
    Calls Try.prog 6 #[.agg x.l.toArray, .int .i64 cut, .int .i64 times] w fun e w'' => e = .returned (.bool true) ∧ Below w.heap.size w w'' :=
  fcuts_walk x cut times w hX (bounds_i64 hc) (bounds_i64 ht)
end
end Go.Proofs.Ytcobcgbpmkpljaa
