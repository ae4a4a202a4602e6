/-
  A frame's bytes are read as they were written.
-/
import Derived.Test.YtiklelecoekkjaaTrip2
import Derived.Test.YtiklelecoekkjaaRead0
import Derived.Test.YtiklelecoekkjaaWrite
import Derived.Test.YtiklelecoekkjaaEat
import Derived.Test.YtiklelecoekkjaaEnc
namespace Go.Proofs.Ytiklelecoekkjaa
set_option linter.unusedVariables false
set_option linter.unusedSimpArgs false
open Go.RowKit
set_option maxRecDepth 100000 in
theorem body_app (m : FN) (ds : List Int) (rs : RS) (more : List Int) (hw : m.wf) (h : rightB m ds rs = true) : rdK (wkS m) (bodyS m ds rs ++ more, false) = some (askN m, askDs m.k ds, askRs m.k rs, (more, false)) := by
  obtain ⟨k, s, o, fin, l, c, f, q, y, c0, c1, c2, c3, c4, c5, c6, c7⟩ := m
  have w1 := hw.s0
  have w2 := hw.o0
  have w3 := hw.l0
  have w4 := hw.c0
  have w5 := hw.f0
  have w6 := hw.q0
  have w7 := hw.y0
  simp only at w1 w2 w3 w4 w5 w6 w7
  rcases kind_cases k with rfl | rfl | rfl | rfl | rfl | rfl | rfl | rfl | rfl | rfl | rfl | rfl | rfl | rfl | rfl | rfl | rfl | hx
  · simp [rdK, wkS, bodyS, askN, askDs, askRs, FN.zero]
  · simp [rdK, wkS, bodyS, askN, askDs, askRs, FN.zero]
  · simp [rdK, wkS, bodyS, askN, askDs, askRs, FN.zero]
  · simp [rightB, knownB, nrB, smB, drB, askN, askDs, askRs, FN.zero, glS] at h
    have v := ack_app y rs more ⟨w7, by omega⟩ (by simp [h])
    simp [rdK, wkS, bodyS, askN, askDs, askRs, FN.zero, v]
  · simp [rightB, knownB, nrB, smB, drB, askN, askDs, askRs, FN.zero, glS] at h
    have v := var_three s c f ⟨w1, by omega⟩ ⟨w4, by omega⟩ ⟨w5, by omega⟩ more
    simp [rdK, wkS, bodyS, askN, askDs, askRs, FN.zero, v]
  · simp [rightB, knownB, nrB, smB, drB, askN, askDs, askRs, FN.zero, glS] at h
    have v := var_two s c ⟨w1, by omega⟩ ⟨w4, by omega⟩ more
    simp [rdK, wkS, bodyS, askN, askDs, askRs, FN.zero, v]
  · simp [rightB, knownB, nrB, smB, drB, askN, askDs, askRs, FN.zero, glS] at h
    have v := var_app o ⟨w2, by omega⟩ (textB ds ++ more)
    have u := text_app ds more (by omega)
    simp [rdK, wkS, bodyS, askN, askDs, askRs, FN.zero, v, u]
  · simp [rightB, knownB, nrB, smB, drB, askN, askDs, askRs, FN.zero, glS] at h
    have u := text_app ds more (by omega)
    by_cases ho : 0 < o
    · have v := var_app s ⟨w1, by omega⟩ (putS o ++ (textB ds ++ more))
      have v2 := var_app o ⟨w2, by omega⟩ (textB ds ++ more)
      cases fin <;> simp [rdK, wkS, bodyS, askN, askDs, askRs, FN.zero, v, v2, u, ho, dataR, dataN]
    · have v := var_app s ⟨w1, by omega⟩ (textB ds ++ more)
      have ho0 : o = 0 := by omega
      cases fin <;> simp [rdK, wkS, bodyS, askN, askDs, askRs, FN.zero, v, u, ho0, dataR, dataN]
  · simp [rightB, knownB, nrB, smB, drB, askN, askDs, askRs, FN.zero, glS] at h
    have v := var_app l ⟨w3, by omega⟩ more
    simp [rdK, wkS, bodyS, askN, askDs, askRs, FN.zero, v]
  · simp [rightB, knownB, nrB, smB, drB, askN, askDs, askRs, FN.zero, glS] at h
    have v := var_app l ⟨w3, by omega⟩ more
    simp [rdK, wkS, bodyS, askN, askDs, askRs, FN.zero, v]
  · simp [rightB, knownB, nrB, smB, drB, askN, askDs, askRs, FN.zero, glS] at h
    have v := var_app l ⟨w3, by omega⟩ more
    simp [rdK, wkS, bodyS, askN, askDs, askRs, FN.zero, v]
  · simp [rightB, knownB, nrB, smB, drB, askN, askDs, askRs, FN.zero, glS] at h
    have v := var_two s l ⟨w1, by omega⟩ ⟨w3, by omega⟩ more
    simp [rdK, wkS, bodyS, askN, askDs, askRs, FN.zero, v]
  · simp [rightB, knownB, nrB, smB, drB, askN, askDs, askRs, FN.zero, glS] at h
    have v := var_two q l ⟨w6, by omega⟩ ⟨w3, by omega⟩ (8 :: ([c0, c1, c2, c3, c4, c5, c6, c7] ++ more))
    have u := take_app [8] ([c0, c1, c2, c3, c4, c5, c6, c7] ++ more) 1 rfl
    have t := take_app [c0, c1, c2, c3, c4, c5, c6, c7] more 8 rfl
    simp only [List.cons_append, List.nil_append] at v u t
    simp [rdK, wkS, bodyS, askN, askDs, askRs, FN.zero, cidL, withC, byteR, v, u, t]
  · simp [rightB, knownB, nrB, smB, drB, askN, askDs, askRs, FN.zero, glS] at h
    have v := var_app q ⟨w6, by omega⟩ more
    simp [rdK, wkS, bodyS, askN, askDs, askRs, FN.zero, v]
  · have t := take_app [c0, c1, c2, c3, c4, c5, c6, c7] more 8 rfl
    simp only [List.cons_append, List.nil_append] at t
    simp [rdK, wkS, bodyS, askN, askDs, askRs, FN.zero, cidL, withC, t]
  · have t := take_app [c0, c1, c2, c3, c4, c5, c6, c7] more 8 rfl
    simp only [List.cons_append, List.nil_append] at t
    simp [rdK, wkS, bodyS, askN, askDs, askRs, FN.zero, cidL, withC, t]
  · simp [rightB, knownB, nrB, smB, drB, askN, askDs, askRs, FN.zero, glS] at h
    have v := var_app c ⟨w4, by omega⟩ (textB ds ++ more)
    have u := text_app ds more (by omega)
    simp [rdK, wkS, bodyS, askN, askDs, askRs, FN.zero, v, u]
  · exfalso
    unfold rightB knownB at h
    simp only [Bool.and_eq_true] at h
    obtain ⟨e0, e1, e30, e2, e4, e5, e6, e8, e16, e18, e20, e17, e24, e25, e26, e27, e28⟩ := hx
    simp [e0, e1, e30, e2, e4, e5, e6, e8, e16, e18, e20, e17, e24, e25, e26, e27, e28] at h
theorem ask_right (m : FN) (ds : List Int) (rs : RS) (h : rightB m ds rs = true) : rightB (askN m) (askDs m.k ds) (askRs m.k rs) = true := by
  obtain ⟨k, s, o, fin, l, c, f, q, y, c0, c1, c2, c3, c4, c5, c6, c7⟩ := m
  rcases kind_cases k with rfl | rfl | rfl | rfl | rfl | rfl | rfl | rfl | rfl | rfl | rfl | rfl | rfl | rfl | rfl | rfl | rfl | hx
  all_goals first
    | (simp [rightB, knownB, nrB, smB, drB, askN, askDs, askRs, FN.zero, glS] at h ⊢; done)
    | (simp [rightB, knownB, nrB, smB, drB, askN, askDs, askRs, FN.zero, glS] at h ⊢; exact h)
    | (exfalso
       unfold rightB knownB at h
       simp only [Bool.and_eq_true] at h
       obtain ⟨e0, e1, e30, e2, e4, e5, e6, e8, e16, e18, e20, e17, e24, e25, e26, e27, e28⟩ := hx
       simp [e0, e1, e30, e2, e4, e5, e6, e8, e16, e18, e20, e17, e24, e25, e26, e27, e28] at h)
theorem wkS_r (m : FN) (ds : List Int) (rs : RS) (h : rightB m ds rs = true) : 0 ≤ wkS m ∧ wkS m ≤ 30 := by
  obtain ⟨k, s, o, fin, l, c, f, q, y, c0, c1, c2, c3, c4, c5, c6, c7⟩ := m
  unfold wkS
  rcases kind_cases k with rfl | rfl | rfl | rfl | rfl | rfl | rfl | rfl | rfl | rfl | rfl | rfl | rfl | rfl | rfl | rfl | rfl | hx
  all_goals first
    | (simp; done)
    | (simp; (repeat' split) <;> omega)
    | (exfalso
       unfold rightB knownB at h
       simp only [Bool.and_eq_true] at h
       obtain ⟨e0, e1, e30, e2, e4, e5, e6, e8, e16, e18, e20, e17, e24, e25, e26, e27, e28⟩ := hx
       simp [e0, e1, e30, e2, e4, e5, e6, e8, e16, e18, e20, e17, e24, e25, e26, e27, e28] at h)
theorem read_app (m : FN) (ds : List Int) (rs : RS) (more : List Int) (hw : m.wf) (h : rightB m ds rs = true) : readO (oneS m ds rs ++ more, false) = some (askN m, askDs m.k ds, askRs m.k rs, (more, false)) := by
  have hk := wkS_r m ds rs h
  have v := var_app (wkS m) ⟨hk.1, by omega⟩ (bodyS m ds rs ++ more)
  have b := body_app m ds rs more hw h
  have a := ask_right m ds rs h
  unfold readO oneS
  rw [List.append_assoc, v.1, v.2, if_neg (by omega), b]
  simp only
  rw [if_pos ⟨trivial, a⟩]
/-- What is asked of a frame, as data. -/
def FR.asked (x : FR) : FD := (askN x.m, askDs x.m.k x.ds, askRs x.m.k x.rs)
theorem one_pos (m : FN) (ds : List Int) (rs : RS) (h : rightB m ds rs = true) : 0 < (oneS m ds rs).length := by
  have hk := wkS_r m ds rs h
  have := size_pos (wkS m) (by omega)
  unfold oneS
  rw [List.length_append, putS_len]; omega
/-- All of Encode is the frames. -/
theorem all_enc : ∀ (L : List FR) (n : Nat), L ≠ [] → L.length ≤ n → L.all FR.right = true → (∀ x ∈ L, x.m.wf) → allO n (encS L, false) = some (L.map FR.asked)
  | [], _, h, _, _, _ => absurd rfl h
  | x :: t, 0, _, h, _, _ => by simp at h
  | x :: t, n + 1, _, hn, hr, hw => by
    simp only [List.all_cons, Bool.and_eq_true] at hr
    have e : encS (x :: t) = oneS x.m x.ds x.rs ++ encS t := by simp [encS]
    have r := read_app x.m x.ds x.rs (encS t) (hw x (by simp)) hr.1
    unfold allO
    rw [e, r]
    simp only
    cases t with
    | nil => simp [encS, FR.asked]
    | cons y u =>
      have hp : (encS (y :: u)).length ≠ 0 := by
        have hr2 := hr.2
        simp only [List.all_cons, Bool.and_eq_true] at hr2
        have := one_pos y.m y.ds y.rs hr2.1
        have e2 : encS (y :: u) = oneS y.m y.ds y.rs ++ encS u := by simp [encS]
        rw [e2, List.length_append]; omega
      rw [if_neg hp, all_enc (y :: u) n (by simp) (by simp at hn ⊢; omega) hr.2 (fun z hz => hw z (by simp at hz ⊢; right; exact hz))]
      rfl
end Go.Proofs.Ytiklelecoekkjaa
