/-
  hello.Side: Secret, proof, Out; First.
-/
import Derived.Test.YtdakbedohjemeaaMq13
namespace Go.Proofs.Ytdakbedohjemeaa
section
set_option linter.unusedVariables false
set_option linter.unusedSimpArgs false
open Go.RowKit Go.ChangeShapes Go.WideShapes Go.Deep
theorem clientB_byt : Byt clientB := by intro x hx; simp [clientB] at hx; omega
theorem serverB_byt : Byt serverB := by intro x hx; simp [serverB] at hx; omega
theorem dataB_byt : Byt dataB := by intro x hx; simp [dataB] at hx; omega
theorem initialB_byt : Byt initialB := by intro x hx; simp [initialB] at hx; omega
/-- slices.Clone of bytes. -/
theorem sclone_any (A : Option Addr) (n c : Nat) (bs : List Int) (w : World) (hr : Rd w w.heap.size A n bs) (hc : n ≤ 140737488355000) (hA : A = none → c = 0) :
    Calls Try.prog 34 #[.slice A n c] w fun e w' => ∃ v, e = .returned v ∧ Own w' w.heap.size 5 v bs ∧ Below w.heap.size w w' := by
  obtain ⟨i0, hi, hz0, hz1, hz2⟩ := info_parts u8_info
  cases A with
  | none =>
    obtain rfl := hA rfl
    have hn : n = 0 := by
      rcases Nat.eq_zero_or_pos n with h0 | h0
      · exact h0
      · obtain ⟨b, off, h, _⟩ := hr.2.2 h0
        cases h
    subst hn
    obtain rfl := hr.zero
    clear hA
    have he := fun W : World => Lib.run_eql_slice_nil (P := Try.prog) W 31 5 none 0 0 0 0 Try.underlying31
    go_enter Try.func34, Try.ntmps34
    go_wp2
    go_ret
    exact ⟨_, rfl, Own.none_ _ _ _, Below.refl _ _⟩
  | some ad =>
    clear hA
    have he := fun W : World => Lib.run_eql_slice_nil (P := Try.prog) W 31 5 (some ad) n c 0 0 Try.underlying31
    go_enter Try.func34, Try.ntmps34
    go_wp2_with (at_builtin; refine wpList_append_rd rfl (.tmp 5) (.tmp 6) 31 rfl w.heap.size 5 i0 Try.underlying31 hi hz0 hz1 hz2 _ [] rfl (Own.of_block (n := 0) (cap := 0) Byt.nil rfl (heap_alloc_new w _) (Nat.le_refl _) (Nat.le_refl _) (Nat.zero_le _) rfl rfl) _ (some ad) n c bs rfl (hr.alloc (Nat.le_refl _) _) (by simp; omega) w ((Below.refl _ _).alloc (Nat.le_refl _) _) (by simp) ?_; intro v2 w2 hown2 hb2 hgr2)
    go_ret
    exact ⟨_, rfl, hown2, hb2⟩
/-- The secret of space Initial. -/
def firstS (m : N8) : Int := keyedS (numS m.l) initialB
section
variable {w w' : World} {base p : Nat} {vo vh : Value} {O : Nat → Prop} {X X' : HS}
set_option maxRecDepth 100000 in
set_option maxHeartbeats 1000000 in
theorem h_secret (h : Hm w base p O X) (hk : X.ok) (space : Int) : Calls Try.prog 21 #[.pointer (some ⟨p, 0, none⟩), .int .i64 space] w fun e w' => e = .returned (.tuple #[.int .u64 (secS X space).1, .bool (secS X space).2]) ∧ Below w.heap.size w w' := by
  have HF := Lib.hid (h_finishes h hk)
  have HG := Lib.hid (h_greeted h hk)
  have HD := Lib.hid (fun W => (show Calls Try.prog 39 #[.int .u64 X.sh, .string { data := #[100, 97, 116, 97] }] W _ from derive_any X.sh dataB W dataB_byt (by unfold maxLen; simp [dataB]) hk.s0 hk.s1))
  obtain ⟨vo, vh, h, rfl⟩ := h
  have c17 := h.c17
  clear h hk
  unfold secS
  generalize greetB X = gb at *
  generalize finB X = fb at *
  generalize keyedS X.sh dataB = kd at *
  by_cases h1 : space = 1
  · subst h1
    cases gb
    all_goals
      go_enter Try.func21, Try.ntmps21
      go_wp2_with (first | (go_at_call 33; refine HG.out.mono ?_; rintro e w' ⟨rfl, rfl⟩))
      go_ret2
      exact ⟨rfl, Below.refl _ _⟩
  · by_cases h2 : space = 2
    · subst h2
      cases fb
      all_goals
        go_enter Try.func21, Try.ntmps21
        go_wp2_with (first | (go_at_call 35; refine HF.out.mono ?_; rintro e w' ⟨rfl, rfl⟩) | (go_at_call 39; refine (HD.out _).mono ?_; rintro e w1 ⟨rfl, hb1⟩))
        go_ret2
        first | exact ⟨rfl, Below.refl _ _⟩ | exact ⟨rfl, hb1⟩
    · rw [if_neg (fun h => h1 h.1), if_neg (fun h => h2 h.1)]
      have e1 : (space == 1) = false := by simp [h1]
      have e2 : (space == 2) = false := by simp [h2]
      go_enter Try.func21, Try.ntmps21
      go_wp2
      go_ret2
      exact ⟨rfl, Below.refl _ _⟩
end
theorem z8_at (w : World) : At (w.alloc (.cells #[.int .u8 0, .int .u8 0, .int .u8 0, .int .u8 0, .int .u8 0, .int .u8 0, .int .u8 0, .int .u8 0] 23)) w.heap.size 23 (N8.zero.l.map (Value.int .u8)) := At.new w 23 (N8.zero.l.map (Value.int .u8))
section
variable {w w' : World} {base p : Nat} {vo vh : Value} {O : Nat → Prop} {X X' : HS}
set_option maxRecDepth 100000 in
set_option maxHeartbeats 1000000 in
theorem h_proof (h : Hm w base p O X) (hk : X.ok) (asker : Bool) : Calls Try.prog 36 #[.pointer (some ⟨p, 0, none⟩), .bool asker] w fun e w' => e = .returned (proofS X.sh asker).v ∧ Below w.heap.size w w' := by
  have HC := Lib.hid (fun W => (show Calls Try.prog 39 #[.int .u64 X.sh, .string { data := #[99, 108, 105, 101, 110, 116] }] W _ from derive_any X.sh clientB W clientB_byt (by unfold maxLen; simp [clientB]) hk.s0 hk.s1))
  have HS := Lib.hid (fun W => (show Calls Try.prog 39 #[.int .u64 X.sh, .string { data := #[115, 101, 114, 118, 101, 114] }] W _ from derive_any X.sh serverB W serverB_byt (by unfold maxLen; simp [serverB]) hk.s0 hk.s1))
  have b1 := keyedS_bd X.sh clientB
  have b2 := keyedS_bd X.sh serverB
  have HB1 := Lib.hid (fun W => mbytes_any (keyedS X.sh clientB) W b1.1 b1.2)
  have HB2 := Lib.hid (fun W => mbytes_any (keyedS X.sh serverB) W b2.1 b2.2)
  have hp := h.lt p (by obtain ⟨vo, vh, h, rfl⟩ := h; exact .inl rfl)
  have hA := z8_at w
  have hB0 : Below w.heap.size w _ := (Below.refl _ _).alloc (Nat.le_refl _) (.cells #[.int .u8 0, .int .u8 0, .int .u8 0, .int .u8 0, .int .u8 0, .int .u8 0, .int .u8 0, .int .u8 0] 23)
  have h0 := h.below hB0
  obtain ⟨vo, vh, h0, rfl⟩ := h0
  have c17 := h0.c17
  have q1 : proofS X.sh true = b8 (keyedS X.sh clientB) := rfl
  have q2 : proofS X.sh false = b8 (keyedS X.sh serverB) := rfl
  generalize keyedS X.sh clientB = k1 at *
  generalize keyedS X.sh serverB = k2 at *
  obtain ⟨W0, hW0⟩ : ∃ W, w.alloc (.cells #[.int .u8 0, .int .u8 0, .int .u8 0, .int .u8 0, .int .u8 0, .int .u8 0, .int .u8 0, .int .u8 0] 23) = W := ⟨_, rfl⟩
  rw [hW0] at hA hB0 c17
  obtain ⟨g, hg⟩ : ∃ g, w.heap.size = g := ⟨_, rfl⟩
  rw [hg] at hA
  cases asker
  · generalize hm1 : b8 k2 = m1 at *
    rw [q2]
    clear q1 q2
    go_enter Try.func36, Try.ntmps36
    go_wp2_with fail
    clear h0
    refine (HS.out _).mono ?_
    rintro e w1 ⟨rfl, hb1⟩
    have hA1 := hA.below hb1 hA.lt
    clear c17
    go_wp2_with (first | (go_at_call 48; refine (HB2.out _).mono ?_; rintro e w2 ⟨rfl, hb2⟩; have hA2 := hA1.below hb2 hA1.lt) | ((with_reducible refine at_st8 (x := .tmp 4) ?_); refine st_8 g 23 (N8.zero.l.map (Value.int .u8)) m1 (by rfl) (by rfl) hA2 rfl ?_; intro w3 hA3 hk3))
    refine bodyPost_ret (results_cell 4 23 (by rfl) _ 23 _ _ (by rfl) hA3 Try.underlying23 rfl (by rw [show (m1.l.map (Value.int .u8)).length = 8 from rfl]; exact a8_info)) rfl ?_
    have hB2 := (hB0.trans (hb1.mono hB0.size)).trans (hb2.mono (hB0.trans (hb1.mono hB0.size)).size)
    exact ⟨rfl, hk3.below hB2 hB2.size (by intro j hj; omega)⟩
  · generalize hm1 : b8 k1 = m1 at *
    rw [q1]
    clear q1 q2
    go_enter Try.func36, Try.ntmps36
    go_wp2_with fail
    clear h0
    refine (HC.out _).mono ?_
    rintro e w1 ⟨rfl, hb1⟩
    have hA1 := hA.below hb1 hA.lt
    clear c17
    go_wp2_with (first | (go_at_call 48; refine (HB1.out _).mono ?_; rintro e w2 ⟨rfl, hb2⟩; have hA2 := hA1.below hb2 hA1.lt) | ((with_reducible refine at_st8 (x := .tmp 4) ?_); refine st_8 g 23 (N8.zero.l.map (Value.int .u8)) m1 (by rfl) (by rfl) hA2 rfl ?_; intro w3 hA3 hk3))
    refine bodyPost_ret (results_cell 4 23 (by rfl) _ 23 _ _ (by rfl) hA3 Try.underlying23 rfl (by rw [show (m1.l.map (Value.int .u8)).length = 8 from rfl]; exact a8_info)) rfl ?_
    have hB2 := (hB0.trans (hb1.mono hB0.size)).trans (hb2.mono (hB0.trans (hb1.mono hB0.size)).size)
    exact ⟨rfl, hk3.below hB2 hB2.size (by intro j hj; omega)⟩
end
end
section
set_option linter.unusedVariables false
set_option linter.unusedSimpArgs false
open Go.RowKit
/-- How many bytes follow. -/
def numTwo (h : List Int) : Int := h.getD 1 0 * 256 + h.getD 2 0
def awaitB (X : HS) (space x : Int) : Bool :=
  if X.st = 0 then decide (space = 0 ∧ (X.held ≠ [] ∨ x = 1)) else if X.st = 1 then decide (space = 1 ∧ (X.held ≠ [] ∨ x = 20)) else false
def rowsS (X : HS) (b : List Int) : List Int := if X.az then X.own ++ msgS 1 b else msgS 1 b ++ X.own
def meetX (X : HS) (b : List Int) : HS := match decodeS (b.drop 8) with
  | none => X
  | some p => { X with th := p, st := 1, sh := keyedS X.psk (rowsS X b) }
def meetE (b : List Int) : Int := match decodeS (b.drop 8) with
  | none => 8
  | some _ => 0
def checkX (X : HS) (b : List Int) : HS := if b = (proofS X.sh (!X.az)).l then { X with st := 2 } else X
def checkE (X : HS) (b : List Int) : Int := if b = (proofS X.sh (!X.az)).l then 0 else 40
def readX (X : HS) (b : List Int) : HS := if X.st = 0 then meetX X b else checkX X b
def readE (X : HS) (b : List Int) : Int := if X.st = 0 then meetE b else checkE X b
def noHeld (X : HS) : HS := { X with held := [] }
def withHeld (X : HS) (h : List Int) : HS := { X with held := h }
def takeX (X : HS) (space x : Int) : HS :=
  if awaitB X space x = false then X
  else if (X.held ++ [x]).length < 3 then withHeld X (X.held ++ [x])
  else if 200 < numTwo (X.held ++ [x]) then withHeld X (X.held ++ [x])
  else if (((X.held ++ [x]).length - 3 : Nat) : Int) < numTwo (X.held ++ [x]) then withHeld X (X.held ++ [x])
  else readX (noHeld X) ((X.held ++ [x]).drop 3)
def takeE (X : HS) (space x : Int) : Int :=
  if awaitB X space x = false then 10
  else if (X.held ++ [x]).length < 3 then 0
  else if 200 < numTwo (X.held ++ [x]) then 10
  else if (((X.held ++ [x]).length - 3 : Nat) : Int) < numTwo (X.held ++ [x]) then 0
  else readE (noHeld X) ((X.held ++ [x]).drop 3)
def coded (X : HS) (c : Int) : HS := { X with code := c }
def feed1 (space : Int) (X : HS) (x : Int) : HS :=
  if X.code ≠ 0 then X else if takeE X space x = 0 then coded (takeX X space x) 0 else noHeld (coded (takeX X space x) (takeE X space x))
def feedX (X : HS) (space : Int) (bs : List Int) : HS := bs.foldl (feed1 space) X
theorem feedX_app (X : HS) (space : Int) (a b : List Int) : feedX X space (a ++ b) = feedX (feedX X space a) space b := List.foldl_append ..
theorem feedX_snoc (X : HS) (space : Int) (a : List Int) (x : Int) : feedX X space (a ++ [x]) = feed1 space (feedX X space a) x := by rw [feedX_app]; rfl
theorem feed1_closed {X : HS} (h : X.code ≠ 0) (space x : Int) : feed1 space X x = X := if_pos h
theorem feedX_closed {X : HS} (h : X.code ≠ 0) (space : Int) : ∀ bs, feedX X space bs = X
  | [] => rfl
  | x :: bs => by show feedX (feed1 space X x) space bs = X; rw [feed1_closed h]; exact feedX_closed h space bs
theorem meetE_bd (b : List Int) : meetE b = 0 ∨ meetE b = 8 := by unfold meetE; split <;> simp
theorem checkE_bd (X : HS) (b : List Int) : checkE X b = 0 ∨ checkE X b = 40 := by unfold checkE; split <;> simp
theorem readE_bd (X : HS) (b : List Int) : 0 ≤ readE X b ∧ readE X b ≤ 40 := by
  unfold readE
  split
  · rcases meetE_bd b with h | h <;> omega
  · rcases checkE_bd X b with h | h <;> omega
theorem takeE_bd (X : HS) (space x : Int) : 0 ≤ takeE X space x ∧ takeE X space x ≤ 40 := by
  unfold takeE
  repeat' split
  all_goals first | omega | exact readE_bd _ _
theorem HS.ok.held {X : HS} (h : X.ok) {l : List Int} (hl : l.length ≤ 202) : (withHeld X l).ok := { h with hl := hl }
theorem HS.ok.noHeld {X : HS} (h : X.ok) : (noHeld X).ok := { h with hl := by show (0 : Nat) ≤ 202; omega }
theorem HS.ok.coded {X : HS} (h : X.ok) {c : Int} (h0 : 0 ≤ c) (h1 : c ≤ 40) : (coded X c).ok := { h with c0 := h0, c1 := h1 }
theorem meetX_ok {X : HS} (h : X.ok) (b : List Int) : (meetX X b).ok := by
  unfold meetX
  split
  · exact h
  · exact { h with st := .inr (.inl rfl), s0 := (keyedS_bd _ _).1, s1 := (keyedS_bd _ _).2 }
theorem checkX_ok {X : HS} (h : X.ok) (b : List Int) : (checkX X b).ok := by
  unfold checkX
  split
  · exact { h with st := .inr (.inr rfl) }
  · exact h
theorem readX_ok {X : HS} (h : X.ok) (b : List Int) : (readX X b).ok := by
  unfold readX
  split
  · exact meetX_ok h b
  · exact checkX_ok h b
/-- Behind a byte that closes nothing not more is held than may be. -/
theorem takeX_ok {X : HS} (h : X.ok) (space x : Int) (he : takeE X space x = 0) : (takeX X space x).ok := by
  have hl := h.hl
  unfold takeE at he
  unfold takeX
  split at he
  · omega
  · rename_i h1
    rw [if_neg h1]
    split at he
    · rename_i h2
      rw [if_pos h2]
      exact h.held (by omega)
    · rename_i h2
      rw [if_neg h2]
      split at he
      · omega
      · rename_i h3
        rw [if_neg h3]
        split at he
        · rename_i h4
          rw [if_pos h4]
          exact h.held (by omega)
        · rename_i h4
          rw [if_neg h4]
          exact readX_ok h.noHeld _
theorem takeX_ok' {X : HS} (h : X.ok) (space x : Int) : (noHeld (takeX X space x)).ok := by
  unfold takeX
  repeat' split
  · exact h.noHeld
  · exact (h.noHeld)
  · exact (h.noHeld)
  · exact (h.noHeld)
  · exact (readX_ok h.noHeld _).noHeld
theorem feed1_ok {X : HS} (h : X.ok) (space x : Int) : (feed1 space X x).ok := by
  unfold feed1
  split
  · exact h
  · split
    · rename_i he
      exact (takeX_ok h space x he).coded (by omega) (by omega)
    · exact (takeX_ok' h space x).coded (takeE_bd _ _ _).1 (takeE_bd _ _ _).2
theorem feedX_ok {X : HS} (h : X.ok) (space : Int) : ∀ bs, (feedX X space bs).ok := by
  intro bs
  induction bs generalizing X with
  | nil => exact h
  | cons x bs ih => exact ih (feed1_ok h space x)
/-- What is to be sent. -/
def outS (X : HS) (space : Int) : List Int :=
  if space = 0 ∧ (X.az = true ∨ greetB X = true) then X.own else if space = 1 ∧ finB X = true then msgS 20 (proofS X.sh X.az).l else []
end
end Go.Proofs.Ytdakbedohjemeaa
