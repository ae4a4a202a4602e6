/-
  hello.Ask, hello.Answer.
-/
import Derived.Test.YtdakbedohjemeaaMq16
namespace Go.Proofs.Ytdakbedohjemeaa
set_option linter.unusedVariables false
set_option linter.unusedSimpArgs false
open Go.RowKit Go.ChangeShapes Go.WideShapes Go.Deep
def hs0 (az : Bool) (psk : Int) (m : N8) (p : PN) : HS := ⟨az, psk, helS m p, 0, [], .zero, 0, 0⟩
theorem hs0_ok (az : Bool) (psk : Int) (m : N8) (p : PN) (k0 : 0 ≤ psk) (k1 : psk < 18446744073709551616) : (hs0 az psk m p).ok :=
  ⟨k0, k1, by have := helS_len m p; show (helS m p).length ≤ 300; omega, .inl rfl, by show (0 : Nat) ≤ 202; omega, by show (0 : Int) ≤ 0; omega, by show (0 : Int) < 18446744073709551616; omega, by show (0 : Int) ≤ 0; omega, by show (0 : Int) ≤ 40; omega⟩
def HNew (X : HS) (w : World) (e : Ending) (w' : World) : Prop := ∃ p, e = .returned (.pointer (some ⟨p, 0, none⟩)) ∧ (∃ O, Hm w' w.heap.size p O X) ∧ Below w.heap.size w w'
theorem hnew_of {w w1 : World} {v : Value} {az : Bool} {psk : Int} {m : N8} {p : PN} (ho : Own w1 w.heap.size 5 v (helS m p)) (hb : Below w.heap.size w w1) : HNew (hs0 az psk m p) w (.returned (.pointer (some ⟨w1.heap.size, 0, none⟩))) (w1.alloc (.cells (hsL (hs0 az psk m p) v (.slice none 0 0)).toArray 64)) := by
  refine ⟨_, rfl, ⟨_, v, .slice none 0 0, ⟨At.new w1 _ _, hb.size, ho.alloc _, Own.none_ _ _ _, fun e => ?_, by simp [Value.ownBlock], fun j _ e => by simp [Value.ownBlock] at e⟩, rfl⟩, hb.alloc hb.size _⟩
  have := (ho.block_lt _ e).2
  omega
set_option maxRecDepth 100000 in
set_option maxHeartbeats 2000000 in
theorem h_ask (psk : Int) (m : N8) (p : PN) (w : World) (hm : Byt m.l) (hwf : p.wf) (h : prightB p = true) (k0 : 0 ≤ psk) (k1 : psk < 18446744073709551616) :
    Calls Try.prog 14 #[.int .u64 psk, m.v, pmV p] w (HNew (hs0 true psk m p) w) := by
  have HH := Lib.hid (fun W => hhello_any m p W hm hwf h)
  obtain ⟨L8, hL8⟩ : ∃ L, m.l.map (Value.int .u8) = L := ⟨_, rfl⟩
  obtain ⟨L, hL⟩ : ∃ L, pmL p = L := ⟨_, rfl⟩
  have h8v : m.v = .agg L8.toArray := by rw [← hL8]; rfl
  have hpv : pmV p = .agg L.toArray := by rw [← hL]; rfl
  have hLl : L.length = 12 := by rw [← hL]; rfl
  have h8l : L8.length = 8 := by rw [← hL8]; rfl
  have HF := Lib.hid (fun (w1 : World) (v : Value) (ho : Own w1 w.heap.size 5 v (helS m p)) (hb : Below w.heap.size w w1) => (hnew_of (az := true) (psk := psk) ho hb))
  rw [h8v, hpv] at HH ⊢
  have hB0 : Below w.heap.size w ((w.alloc (.cells L8.toArray 23)).alloc (.cells L.toArray 26)) := ((Below.refl _ _).alloc (Nat.le_refl _) _).alloc (by simp) _
  have hA0 : At ((w.alloc (.cells L8.toArray 23)).alloc (.cells L.toArray 26)) w.heap.size 23 L8 := (At.new w _ _).alloc _
  have hA1 : At ((w.alloc (.cells L8.toArray 23)).alloc (.cells L.toArray 26)) (w.heap.size + 1) 26 L := At.new_ _ _ _ (by simp)
  have HLl := Lib.hid hLl
  have H8l := Lib.hid h8l
  clear hL8 hL h8v hpv hLl h8l
  go_enter Try.func14, Try.ntmps14
  go_wp2_with (first | ((with_reducible refine at_ldp ?_); refine ld_pm _ _ (by rfl) hA1 HLl.out ?_) | ((with_reducible refine at_ld8 ?_); refine wpList_load_at _ _ L8 _ (by rfl) hA0 Try.underlying23 rfl (by rw [H8l.out]; exact a8_info) ?_) | fail)
  refine (HH.out _).mono ?_
  rintro e w1 ⟨v, rfl, ho, hb1⟩
  obtain ⟨A, n, c, rfl⟩ := ho.shape
  have HO := Lib.hid (HF.out w1 _ (ho.base_ hB0.size) (hB0.trans (hb1.mono hB0.size)))
  clear ho hA0 hA1 hb1 hB0
  go_wp2_with fail
  go_ret
  exact HO.out
set_option maxRecDepth 100000 in
set_option maxHeartbeats 2000000 in
theorem h_answer (psk : Int) (m : N8) (p : PN) (w : World) (hm : Byt m.l) (hwf : p.wf) (h : prightB p = true) (k0 : 0 ≤ psk) (k1 : psk < 18446744073709551616) :
    Calls Try.prog 16 #[.int .u64 psk, m.v, pmV p] w (HNew (hs0 false psk m p) w) := by
  have HH := Lib.hid (fun W => hhello_any m p W hm hwf h)
  obtain ⟨L8, hL8⟩ : ∃ L, m.l.map (Value.int .u8) = L := ⟨_, rfl⟩
  obtain ⟨L, hL⟩ : ∃ L, pmL p = L := ⟨_, rfl⟩
  have h8v : m.v = .agg L8.toArray := by rw [← hL8]; rfl
  have hpv : pmV p = .agg L.toArray := by rw [← hL]; rfl
  have hLl : L.length = 12 := by rw [← hL]; rfl
  have h8l : L8.length = 8 := by rw [← hL8]; rfl
  have HF := Lib.hid (fun (w1 : World) (v : Value) (ho : Own w1 w.heap.size 5 v (helS m p)) (hb : Below w.heap.size w w1) => (hnew_of (az := false) (psk := psk) ho hb))
  rw [h8v, hpv] at HH ⊢
  have hB0 : Below w.heap.size w ((w.alloc (.cells L8.toArray 23)).alloc (.cells L.toArray 26)) := ((Below.refl _ _).alloc (Nat.le_refl _) _).alloc (by simp) _
  have hA0 : At ((w.alloc (.cells L8.toArray 23)).alloc (.cells L.toArray 26)) w.heap.size 23 L8 := (At.new w _ _).alloc _
  have hA1 : At ((w.alloc (.cells L8.toArray 23)).alloc (.cells L.toArray 26)) (w.heap.size + 1) 26 L := At.new_ _ _ _ (by simp)
  have HLl := Lib.hid hLl
  have H8l := Lib.hid h8l
  clear hL8 hL h8v hpv hLl h8l
  go_enter Try.func16, Try.ntmps16
  go_wp2_with (first | ((with_reducible refine at_ldp ?_); refine ld_pm _ _ (by rfl) hA1 HLl.out ?_) | ((with_reducible refine at_ld8 ?_); refine wpList_load_at _ _ L8 _ (by rfl) hA0 Try.underlying23 rfl (by rw [H8l.out]; exact a8_info) ?_) | fail)
  refine (HH.out _).mono ?_
  rintro e w1 ⟨v, rfl, ho, hb1⟩
  obtain ⟨A, n, c, rfl⟩ := ho.shape
  have HO := Lib.hid (HF.out w1 _ (ho.base_ hB0.size) (hB0.trans (hb1.mono hB0.size)))
  clear ho hA0 hA1 hb1 hB0
  go_wp2_with fail
  go_ret
  exact HO.out
/-- Eight bytes by a number, of the law's own. -/
def rndS (n : Int) : N8 := ⟨1, (n / 256) % 256, n % 256, 0, 0, 0, 0, 0⟩
theorem rndS_byt (n : Int) : Byt (rndS n).l := by
  intro x hx
  simp [rndS, N8.l] at hx
  omega
set_option maxRecDepth 100000 in
theorem random_any (n : Int) (w : World) (h0 : 0 ≤ n) (h1 : n < 18446744073709551616) : Calls Try.prog 15 #[.int .u64 n] w fun e w' => e = .returned (rndS n).v ∧ Below w.heap.size w w' := by
  have hA := z8_at w
  have hB0 : Below w.heap.size w _ := (Below.refl _ _).alloc (Nat.le_refl _) (.cells #[.int .u8 0, .int .u8 0, .int .u8 0, .int .u8 0, .int .u8 0, .int .u8 0, .int .u8 0, .int .u8 0] 23)
  have e1 : IntKind.u8.wrap (n / 256) = (n / 256) % 256 := by rw [IntKind.wrap_u8]
  have e2 : IntKind.u8.wrap n = n % 256 := by rw [IntKind.wrap_u8]
  go_enter Try.func15, Try.ntmps15
  go_wp2_with (first | ((with_reducible refine at_st8 (x := .tmp 2) ?_); refine st_8 _ 23 (N8.zero.l.map (Value.int .u8)) (rndS n) (by rfl) (by rfl) hA rfl ?_; intro w3 hA3 hk3) | fail)
  refine bodyPost_ret (results_cell 2 23 (by rfl) _ 23 _ _ (by rfl) hA3 Try.underlying23 rfl (by rw [show ((rndS n).l.map (Value.int .u8)).length = 8 from rfl]; exact a8_info)) rfl ?_
  exact ⟨rfl, hk3.below hB0 hB0.size (by intro j hj; omega)⟩
end Go.Proofs.Ytdakbedohjemeaa
