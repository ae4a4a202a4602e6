/-
  hello.message, hello.hello: the bytes of a message, of a hello.
-/
import Derived.Test.YtdakbedohjemeaaMq8
import Derived.Test.YtdakbedohjemeaaPd
import Derived.Test.YtdakbedohjemeaaMq11
import Derived.Test.YtdakbedohjemeaaMq12
import Derived.Test.YtdakbedohjemeaaA8
namespace Go.Proofs.Ytdakbedohjemeaa
section
set_option linter.unusedVariables false
set_option linter.unusedSimpArgs false
open Go.RowKit Go.ChangeShapes Go.WideShapes Go.Deep
/-- A message: what it is, how many bytes follow, and these. -/
def msgS (what : Int) (b : List Int) : List Int := [what] ++ twoB (b.length : Int) ++ b
theorem msgS_len (what : Int) (b : List Int) : (msgS what b).length = b.length + 3 := by simp [msgS, twoB]
set_option maxRecDepth 100000 in
set_option maxHeartbeats 1000000 in
theorem hmsg_any (what : Int) (A : Option Addr) (n c : Nat) (bs : List Int) (w : World) (h0 : 0 ≤ what ∧ what < 256) (hr : Rd w w.heap.size A n bs) (hn : n < 65536) :
    Calls Try.prog 37 #[.int .u8 what, .slice A n c] w fun e w' => ∃ v, e = .returned v ∧ Own w' w.heap.size 5 v (msgS what bs) ∧ Below w.heap.size w w' := by
  have HE := Lib.hid (show [what] ++ twoB (n : Int) ++ bs = msgS what bs by unfold msgS; rw [hr.1])
  have HL := Lib.hid hr.1
  obtain ⟨h1, h2⟩ := h0
  go_enter Try.func37, Try.ntmps37
  go_wp2_with fail
  refine (wnew_any w).mono ?_
  rintro e w1 ⟨rfl, hW1, hs1, hb1⟩
  go_wp2_with fail
  refine (wbyte_any w.heap.size w.heap.size _ _ [] what w1 hW1 (by simp) h1 h2 (by omega)).mono ?_
  intro e w2 hp
  obtain ⟨v2, rfl, hW2, hk⟩ := hp.go hW1
  rw [List.nil_append] at hW2
  have hb2 : Below w.heap.size w w2 := hk.below hb1 (by omega) (fun j hj => hj)
  have hs2 := hk.size
  clear hp hk hW1 hb1
  go_wp2_with fail
  refine (wtwo_any w.heap.size w.heap.size _ _ [what] (n : Int) w2 hW2 (by simp) (by omega) (by omega) (by omega)).mono ?_
  intro e w3 hp
  obtain ⟨v3, rfl, hW3, hk⟩ := hp.go hW2
  have hb3 : Below w.heap.size w w3 := hk.below hb2 (by omega) (fun j hj => hj)
  have hs3 := hk.size
  clear hp hk hW2 hb2
  go_wp2_with fail
  refine (wraw_any w.heap.size w.heap.size _ _ _ A n c bs w3 hW3 (by simp [twoB]; omega) ((hr.below hb3).more hb3.size) (by omega)).mono ?_
  intro e w4 hp
  obtain ⟨v4, rfl, hW4, hk⟩ := hp.go hW3
  have hb4 : Below w.heap.size w w4 := hk.below hb3 (by omega) (fun j hj => hj)
  have hs4 := hk.size
  clear hp hk hW3 hb3
  rw [HE.out] at hW4
  go_wp2_with fail
  refine (wdone_any _ _ _ _ _ w4 hW4 (by rw [msgS_len, HL.out]; omega)).mono ?_
  rintro e w5 ⟨v, rfl, ho, hb5⟩
  go_wp2_with fail
  go_ret
  exact ⟨_, rfl, ho.base_ hb4.size, hb4.trans (hb5.mono hb4.size)⟩
/-- Eight bytes that stand somewhere. -/
theorem At.rd8h {w : World} {g : Nat} {T : TypeId} {m : N8} (h : At w g T (m.l.map (Value.int .u8))) (hb : Byt m.l) : Rd w w.heap.size (some ⟨g, 0, none⟩) 8 m.l := by
  refine ⟨rfl, hb, fun _ => ⟨g, 0, rfl, h.lt, fun i hi => ?_⟩⟩
  rw [h.cell]
  have : i = 0 ∨ i = 1 ∨ i = 2 ∨ i = 3 ∨ i = 4 ∨ i = 5 ∨ i = 6 ∨ i = 7 := by omega
  rcases this with rfl | rfl | rfl | rfl | rfl | rfl | rfl | rfl <;> rfl
/-- The hello of eight bytes random and params. -/
def helS (m : N8) (p : PN) : List Int := msgS 1 (m.l ++ pencS p)
theorem pencS_len (p : PN) : (pencS p).length ≤ 200 := by
  have N1 := numB_le 1 p.i
  have N2 := numB_le 4 p.d
  have N3 := numB_le 5 p.s
  have N4 := numB_le 8 p.m
  have N5 := putS_le 0
  have N6 := textB_le p.c.l
  have : p.c.l.length = 8 := rfl
  unfold pencS
  simp only [List.length_append]
  omega
theorem helS_len (m : N8) (p : PN) : (helS m p).length ≤ 211 := by
  unfold helS
  rw [msgS_len, List.length_append]
  have := pencS_len p
  have : m.l.length = 8 := rfl
  omega
set_option maxRecDepth 100000 in
set_option maxHeartbeats 2000000 in
theorem hhello_any (m : N8) (p : PN) (w : World) (hm : Byt m.l) (hwf : p.wf) (h : prightB p = true) :
    Calls Try.prog 32 #[m.v, pmV p] w fun e w' => ∃ v, e = .returned v ∧ Own w' w.heap.size 5 v (helS m p) ∧ Below w.heap.size w w' := by
  have HPE := Lib.hid (fun W => penc_yes p W hwf h)
  obtain ⟨L8, hL8⟩ : ∃ L, m.l.map (Value.int .u8) = L := ⟨_, rfl⟩
  obtain ⟨L, hL⟩ : ∃ L, pmL p = L := ⟨_, rfl⟩
  have h8v : m.v = .agg L8.toArray := by rw [← hL8]; rfl
  have hpv : pmV p = .agg L.toArray := by rw [← hL]; rfl
  have hLl : L.length = 12 := by rw [← hL]; rfl
  have HR8 := Lib.hid (fun (W : World) (g : Nat) (T : TypeId) (hA : At W g T L8) => (At.rd8h (m := m) (hL8 ▸ hA) hm : Rd W W.heap.size (some ⟨g, 0, none⟩) 8 m.l))
  have hle := pencS_len p
  have HF := Lib.hid (show msgS 1 (m.l ++ pencS p) = helS m p from rfl)
  have HC := Lib.hid (fun d1 d2 => (by simp [catS] : catS [(d1, m.l), (d2, pencS p)] = m.l ++ pencS p))
  obtain ⟨E, hE⟩ : ∃ x, pencS p = x := ⟨_, rfl⟩
  have hml : m.l.length = 8 := rfl
  rw [hE] at HPE hle HF HC
  rw [h8v, hpv]
  rw [hpv] at HPE
  have HLl := Lib.hid hLl
  obtain ⟨n, hn⟩ : ∃ n, E.length = n := ⟨_, rfl⟩
  have HN := Lib.hid hn
  rw [hn] at hle
  have HB := Lib.hid (show ∀ d1 d2, (catS [(d1, m.l), (d2, E)]).length = 8 + n by intro d1 d2; rw [HC.out, List.length_append, hml, hn])
  clear hL8 hL h8v hpv hLl h hwf hE hn hml
  have hB0 : Below w.heap.size w ((w.alloc (.cells L8.toArray 23)).alloc (.cells L.toArray 26)) := ((Below.refl _ _).alloc (Nat.le_refl _) _).alloc (by simp) _
  have hA0 : At ((w.alloc (.cells L8.toArray 23)).alloc (.cells L.toArray 26)) w.heap.size 23 L8 := (At.new w _ _).alloc _
  have hA1 : At ((w.alloc (.cells L8.toArray 23)).alloc (.cells L.toArray 26)) (w.heap.size + 1) 26 L := At.new_ _ _ _ (by simp)
  go_enter Try.func32, Try.ntmps32
  go_wp2_with (first | ((with_reducible refine at_ldp ?_); refine ld_pm _ _ (by rfl) hA1 HLl.out ?_) | fail)
  refine (HPE.out _).mono ?_
  rintro e w1 ⟨v, rfl, ho, hb1⟩
  have hB1 := hB0.trans (hb1.mono hB0.size)
  have hA8 := hA0.below hb1 hA0.lt
  obtain ⟨A, c, rfl, s1, s2, s3⟩ := ho.open_n n HN.out
  clear hA0 hA1 hB0 hb1 ho
  have hb2 : Below w1.heap.size w1 (w1.alloc (.cells #[.slice (some ⟨w.heap.size, 0, none⟩) 8 8, .slice A n c] 31)) := (Below.refl _ _).alloc (Nat.le_refl _) _
  have hR : RowsIn (w1.alloc (.cells #[.slice (some ⟨w.heap.size, 0, none⟩) 8 8, .slice A n c] 31)) w1.heap.size 31 [(⟨some ⟨w.heap.size, 0, none⟩, 8, 8⟩, m.l), (⟨A, n, c⟩, E)] := by
    refine ⟨At.new w1 _ [.slice (some ⟨w.heap.size, 0, none⟩) 8 8, .slice A n c], fun r hr => ?_⟩
    rcases List.mem_cons.1 hr with rfl | hr
    · exact ⟨((HR8.out _ _ _ hA8).below hb2).more hb2.size, Nat.le_refl _, by show (8 : Nat) ≤ maxLen; unfold maxLen; omega⟩
    · obtain rfl := List.mem_singleton.1 hr
      exact ⟨(s3.below hb2).more hb2.size, s1, s2⟩
  have hB2 := hB1.trans (hb2.mono hB1.size)
  obtain ⟨g, hg⟩ : ∃ x, w1.heap.size = x := ⟨_, rfl⟩
  rw [hg] at hR
  obtain ⟨w2, hw2⟩ : ∃ x, w1.alloc (.cells #[.slice (some ⟨w.heap.size, 0, none⟩) 8 8, .slice A n c] 31) = x := ⟨_, rfl⟩
  rw [hw2] at hR hB2
  clear hb2 hB1
  go_wp2_with fail
  clear hg hw2 s1 s2 s3
  refine (concat_any g 2 _ _ w2 rfl hR (by rw [HB.out]; omega) (by omega)).mono ?_
  rintro e w3 ⟨v3, rfl, ho3, hb3⟩
  obtain ⟨A3, c3, rfl, t1, t2, t3⟩ := ho3.open_n (8 + n) (HB.out _ _)
  rw [HC.out] at t3
  have hB3 := hB2.trans (hb3.mono hB2.size)
  clear ho3 hb3 hB2 hR
  go_wp2_with fail
  refine (hmsg_any 1 A3 (8 + n) c3 _ w3 (by omega) t3 (by omega)).mono ?_
  rintro e w4 ⟨v4, rfl, ho4, hb4⟩
  go_wp2_with fail
  go_ret
  exact ⟨_, rfl, (ho4.base_ hB3.size).cast HF.out, hB3.trans (hb4.mono hB3.size)⟩
end
section
set_option linter.unusedVariables false
set_option linter.unusedSimpArgs false
open Go.RowKit Go.ChangeShapes Go.WideShapes Go.Deep
/-- A side: which end; the secret of both; its hello; what it waits for (0 a hello, 1 a finished, 2 nothing); what came of a message; the other's params; the shaken secret; why it is closed. -/
structure HS where
  az : Bool
  psk : Int
  own : List Int
  st : Int
  held : List Int
  th : PN
  sh : Int
  code : Int
def hsL (X : HS) (vo vh : Value) : List Value := [.bool X.az, .int .u64 X.psk, vo, .int .i64 X.st, vh,
  .int .u64 X.th.i, .int .u64 X.th.d, .int .u64 X.th.s, .int .u64 X.th.m,
  .int .u8 X.th.c.a0, .int .u8 X.th.c.a1, .int .u8 X.th.c.a2, .int .u8 X.th.c.a3, .int .u8 X.th.c.a4, .int .u8 X.th.c.a5, .int .u8 X.th.c.a6, .int .u8 X.th.c.a7,
  .int .u64 X.sh, .int .i64 X.code]
structure HS.ok (X : HS) : Prop where
  k0 : 0 ≤ X.psk
  k1 : X.psk < 18446744073709551616
  ol : X.own.length ≤ 300
  st : X.st = 0 ∨ X.st = 1 ∨ X.st = 2
  hl : X.held.length ≤ 202
  s0 : 0 ≤ X.sh
  s1 : X.sh < 18446744073709551616
  c0 : 0 ≤ X.code
  c1 : X.code ≤ 40
structure Hl (w : World) (base p : Nat) (vo vh : Value) (X : HS) : Prop where
  at_ : At w p 64 (hsL X vo vh)
  bp : base ≤ p
  own : Own w base 5 vo X.own
  held : Own w base 5 vh X.held
  ao : vo.ownBlock ≠ some p
  ah : vh.ownBlock ≠ some p
  oh : ∀ j, vo.ownBlock = some j → vh.ownBlock ≠ some j
def hO (p : Nat) (vo vh : Value) : Nat → Prop := fun j => j = p ∨ vo.ownBlock = some j ∨ vh.ownBlock = some j
/-- A side, and the blocks that it has. -/
def Hm (w : World) (base p : Nat) (O : Nat → Prop) (X : HS) : Prop := ∃ vo vh, Hl w base p vo vh X ∧ O = hO p vo vh
/-- What a call that changes it leaves. -/
def HPost (r : Value) (base p : Nat) (O : Nat → Prop) (X' : HS) (w : World) (e : Ending) (w' : World) : Prop :=
  e = .returned r ∧ ∃ O', Hm w' base p O' X' ∧ Kept O w w' ∧ ∀ j, O' j → O j ∨ w.heap.size ≤ j
section
variable {w w' : World} {base p : Nat} {vo vh : Value} {O : Nat → Prop} {X X' : HS}
theorem Hl.lt (h : Hl w base p vo vh X) : ∀ j, hO p vo vh j → base ≤ j ∧ j < w.heap.size := by
  rintro j (rfl | hj | hj)
  · exact ⟨h.bp, h.at_.lt⟩
  · exact h.own.block_lt j hj
  · exact h.held.block_lt j hj
theorem Hl.kept {T : Nat → Prop} (h : Hl w base p vo vh X) (k : Kept T w w') (hs : ∀ j, hO p vo vh j → ¬ T j) : Hl w' base p vo vh X :=
  { h with at_ := h.at_.kept k (hs p (.inl rfl)), own := h.own.kept k fun j hj => hs j (.inr (.inl hj)), held := h.held.kept k fun j hj => hs j (.inr (.inr hj)) }
theorem Hl.below (h : Hl w base p vo vh X) (k : Below w.heap.size w w') : Hl w' base p vo vh X := h.kept (Kept.of_below k (fun _ => False)) fun _ _ h => h
theorem Hl.drewN (h : Hl w base p vo vh X) (n : Nat) : Hl (w.drewN n) base p vo vh X := h.kept ((Kept.refl (fun _ => False) w).drewN n) fun _ _ h => h
/-- A cell of its own block is set, no row of it. -/
theorem Hl.set (h : Hl w base p vo vh X) (j : Nat) (u : Value) (he : (hsL X vo vh).set j u = hsL X' vo vh) (h1 : X'.own = X.own) (h2 : X'.held = X.held) : Hl (w.setCell ⟨p, j, none⟩ u) base p vo vh X' := by
  have k : Kept (· = p) w (w.setCell ⟨p, j, none⟩ u) := (Kept.refl (· = p) w).setAt j u
  exact ⟨he ▸ h.at_.set j u, h.bp, by rw [h1]; exact h.own.kept k fun i hi e => h.ao (by rw [← e]; exact hi), by rw [h2]; exact h.held.kept k fun i hi e => h.ah (by rw [← e]; exact hi), h.ao, h.ah, h.oh⟩
theorem Hl.post (h : Hl w base p vo vh X) {vh' : Value} (h' : Hl w' base p vo vh' X') (k : Kept (hO p vo vh) w w') (ho : ∀ j, vh'.ownBlock = some j → vh.ownBlock = some j ∨ w.heap.size ≤ j) (r : Value) : HPost r base p (hO p vo vh) X' w (.returned r) w' :=
  ⟨rfl, _, ⟨_, _, h', rfl⟩, k, fun j hj => by
    rcases hj with e | e | e
    · exact .inl (.inl e)
    · exact .inl (.inr (.inl e))
    · exact (ho j e).imp (fun e => .inr (.inr e)) id⟩
theorem Hl.c0 (h : Hl w base p vo vh X) : w.cell? ⟨p, 0, none⟩ = some (.bool X.az) := by rw [h.at_.cell]; rfl
theorem Hl.c1 (h : Hl w base p vo vh X) : w.cell? ⟨p, 1, none⟩ = some (.int .u64 X.psk) := by rw [h.at_.cell]; rfl
theorem Hl.c2 (h : Hl w base p vo vh X) : w.cell? ⟨p, 2, none⟩ = some vo := by rw [h.at_.cell]; rfl
theorem Hl.c3 (h : Hl w base p vo vh X) : w.cell? ⟨p, 3, none⟩ = some (.int .i64 X.st) := by rw [h.at_.cell]; rfl
theorem Hl.c4 (h : Hl w base p vo vh X) : w.cell? ⟨p, 4, none⟩ = some vh := by rw [h.at_.cell]; rfl
theorem Hl.c17 (h : Hl w base p vo vh X) : w.cell? ⟨p, 17, none⟩ = some (.int .u64 X.sh) := by rw [h.at_.cell]; rfl
theorem Hl.c18 (h : Hl w base p vo vh X) : w.cell? ⟨p, 18, none⟩ = some (.int .i64 X.code) := by rw [h.at_.cell]; rfl
theorem Hl.fz (h : Hl w base p vo vh X) (j : Nat) : w.frozen? ⟨p, j, none⟩ = false := h.at_.frozen j
theorem Hm.lt (h : Hm w base p O X) : ∀ j, O j → base ≤ j ∧ j < w.heap.size := by
  obtain ⟨vo, vh, h, rfl⟩ := h
  exact h.lt
theorem Hm.kept {T : Nat → Prop} (h : Hm w base p O X) (k : Kept T w w') (hs : ∀ j, O j → ¬ T j) : Hm w' base p O X := by
  obtain ⟨vo, vh, h, rfl⟩ := h
  exact ⟨vo, vh, h.kept k hs, rfl⟩
theorem Hm.below (h : Hm w base p O X) (k : Below w.heap.size w w') : Hm w' base p O X := h.kept (Kept.of_below k (fun _ => False)) fun _ _ h => h
theorem Hm.drewN (h : Hm w base p O X) (n : Nat) : Hm (w.drewN n) base p O X := h.kept ((Kept.refl (fun _ => False) w).drewN n) fun _ _ h => h
theorem HPost.after {r : Value} {e : Ending} {w1 : World} (h : Hm w base p O X) (k : Below w.heap.size w w1) (hP : HPost r base p O X' w1 e w') : HPost r base p O X' w e w' := by
  obtain ⟨he, O', h1, h2, h3⟩ := hP
  have := k.size
  exact ⟨he, O', h1, (Kept.of_below k O).trans h2, fun j hj => (h3 j hj).imp id fun h => by omega⟩
def greetB (X : HS) : Bool := decide (X.st ≠ 0)
def doneB (X : HS) : Bool := decide (X.st = 2)
def finB (X : HS) : Bool := if X.az then doneB X else greetB X
theorem h_done (h : Hm w base p O X) (hk : X.ok) : Calls Try.prog 9 #[.pointer (some ⟨p, 0, none⟩)] w fun e w' => e = .returned (.bool (doneB X)) ∧ w' = w := by
  obtain ⟨vo, vh, h, rfl⟩ := h
  have c3 := h.c3
  have hs := hk.st
  unfold doneB
  clear h hk
  generalize X.st = s at *
  rcases hs with rfl | rfl | rfl
  all_goals
    go_enter Try.func9, Try.ntmps9
    go_wp2
    go_ret
    exact ⟨rfl, rfl⟩
theorem h_greeted (h : Hm w base p O X) (hk : X.ok) : Calls Try.prog 33 #[.pointer (some ⟨p, 0, none⟩)] w fun e w' => e = .returned (.bool (greetB X)) ∧ w' = w := by
  obtain ⟨vo, vh, h, rfl⟩ := h
  have c3 := h.c3
  have hs := hk.st
  unfold greetB
  clear h hk
  generalize X.st = s at *
  rcases hs with rfl | rfl | rfl
  all_goals
    go_enter Try.func33, Try.ntmps33
    go_wp2
    go_ret
    exact ⟨rfl, rfl⟩
theorem h_finishes (h : Hm w base p O X) (hk : X.ok) : Calls Try.prog 35 #[.pointer (some ⟨p, 0, none⟩)] w fun e w' => e = .returned (.bool (finB X)) ∧ w' = w := by
  have HD := Lib.hid (h_done h hk)
  have HG := Lib.hid (h_greeted h hk)
  obtain ⟨vo, vh, h, rfl⟩ := h
  have c0 := h.c0
  unfold finB
  clear h hk
  generalize X.az = a at *
  cases a
  all_goals
    go_enter Try.func35, Try.ntmps35
    go_wp2_with (first | (go_at_call 33; refine HG.out.mono ?_; rintro e w' ⟨rfl, rfl⟩) | (go_at_call 9; refine HD.out.mono ?_; rintro e w' ⟨rfl, rfl⟩))
    go_ret
    exact ⟨rfl, rfl⟩
def serverB : List Int := [115, 101, 114, 118, 101, 114]
def clientB : List Int := [99, 108, 105, 101, 110, 116]
def dataB : List Int := [100, 97, 116, 97]
def initialB : List Int := [105, 110, 105, 116, 105, 97, 108]
/-- What the asker's finished tells, or the answerer's. -/
def proofS (sh : Int) (asker : Bool) : N8 := b8 (keyedS sh (if asker then clientB else serverB))
def secS (X : HS) (space : Int) : Int × Bool :=
  if space = 1 ∧ greetB X = true then (X.sh, true) else if space = 2 ∧ finB X = true then (keyedS X.sh dataB, true) else (0, false)
theorem proofS_byt (sh : Int) (a : Bool) : Byt (proofS sh a).l := b8_byt _
end
end
end Go.Proofs.Ytdakbedohjemeaa
