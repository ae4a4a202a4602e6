/-
  The document's own Protect (narthexref9).
-/
import Derived.Test.YtehdilgnlhhjdaaJg
namespace Go.Proofs.Ytehdilgnlhhjdaa
set_option linter.unusedVariables false
set_option linter.unusedSimpArgs false
open Go.RowKit Go.ChangeShapes Go.WideShapes Go.Deep
section
variable {ops : Array Oper} {rest : List Oper} {a : Act} {w : World} {Q : Exit → Act → World → Prop} {dst : Option Tmp} {x y : Operand} {t : TypeId} {pos : String} {after : Array Edge} {g : Option (Nat × Bool)}
theorem at_ldrk (h : wpList Try.prog ops Q (⟨dst, .load 24 x, t, pos, after, g⟩ :: rest) a w) : wpList Try.prog ops Q (⟨dst, .load 24 x, t, pos, after, g⟩ :: rest) a w := h
theorem ld_rkt (p : Nat) (l : List Value) (hx : a.eval x = .pointer (some ⟨p, 0, none⟩)) (hA : At w p 24 l) (hl : l.length = 2)
    (h : wpList Try.prog ops Q rest (a.put dst (.agg l.toArray)) w) : wpList Try.prog ops Q (⟨dst, .load 24 x, t, pos, after, none⟩ :: rest) a w :=
  wpList_load_at p _ l _ hx hA Try.underlying24 rfl (by rw [hl]; exact rkt_info) h
end
/-- Keys of the document and a head in their blocks. -/
structure RkS (gk gh : Nat) (K L : List Value) (key wd s : Int) (W : World) : Prop where
  k : At W gk 24 K
  h : At W gh 30 L
  ck : W.cell? ⟨gk, 0, none⟩ = some (.int .u64 key)
  cw : W.cell? ⟨gh, 18, none⟩ = some (.int .i64 wd)
  cs : W.cell? ⟨gh, 0, none⟩ = some (.int .i64 s)
theorem RkS.kept {S : Nat → Prop} {gk gh : Nat} {K L : List Value} {key wd s : Int} {W W' : World} (h : RkS gk gh K L key wd s W) (k : Kept S W W') (h1 : ¬ S gk) (h2 : ¬ S gh) : RkS gk gh K L key wd s W' :=
  ⟨(k.block _ h.k.lt h1).trans h.k, (k.block _ h.h.lt h2).trans h.h, by rw [k.cell (p := ⟨gk, 0, none⟩) h.k.lt h1]; exact h.ck, by rw [k.cell (p := ⟨gh, 18, none⟩) h.h.lt h2]; exact h.cw, by rw [k.cell (p := ⟨gh, 0, none⟩) h.h.lt h2]; exact h.cs⟩
theorem RkS.below {gk gh : Nat} {K L : List Value} {key wd s : Int} {W W' : World} (h : RkS gk gh K L key wd s W) (k : Below W.heap.size W W') : RkS gk gh K L key wd s W' := h.kept (Kept.of_below k (fun _ => False)) (fun x => x) (fun x => x)
theorem RkS.belowB {gk gh : Nat} {K L : List Value} {key wd s : Int} {B : Nat} {W W' : World} (h : RkS gk gh K L key wd s W) (k : Below B W W') (h1 : gk < B) (h2 : gh < B) : RkS gk gh K L key wd s W' :=
  ⟨h.k.below k h1, h.h.below k h2, by rw [k.cell (p := ⟨gk, 0, none⟩) h1]; exact h.ck, by rw [k.cell (p := ⟨gh, 18, none⟩) h2]; exact h.cw, by rw [k.cell (p := ⟨gh, 0, none⟩) h2]; exact h.cs⟩
/-- What the document's Protect answers. -/
def RProPost (sk mk n : Int) (m : HN) (tok pay : List Int) (w : World) (e : Ending) (w' : World) : Prop :=
  ∃ v, e = .returned (.tuple #[v, .bool (mayB n m tok pay)]) ∧ Own w' w.heap.size 5 v (if mayB n m tok pay = true then packS sk mk n m tok pay else []) ∧ Below w.heap.size w w'
theorem RProPost.no {sk mk n : Int} {m : HN} {tok pay : List Int} {w w' : World} (h : mayB n m tok pay = false) (hb : Below w.heap.size w w') : RProPost sk mk n m tok pay w (.returned (.tuple #[.slice none 0 0, .bool false])) w' := by
  unfold RProPost; rw [h]; exact ⟨_, rfl, Own.none_ _ _ _, hb⟩
theorem RProPost.yes {sk mk n : Int} {m : HN} {tok pay : List Int} {w w' : World} {v : Value} (h : mayB n m tok pay = true) (ho : Own w' w.heap.size 5 v (packS sk mk n m tok pay)) (hb : Below w.heap.size w w') : RProPost sk mk n m tok pay w (.returned (.tuple #[v, .bool true])) w' := by
  unfold RProPost; rw [h, if_pos rfl]; exact ⟨_, rfl, ho, hb⟩
set_option maxRecDepth 100000 in
set_option maxHeartbeats 4000000 in
theorem rprotect_a (P : Nat → Prop) (sk mk n : Int) (m : HN) (d : Sl) (tok : List Int) (Ap : Option Addr) (np cp : Nat) (pay : List Int) (w : World) (hf : HFits w P m d tok) (hp : Rd w w.heap.size Ap np pay) (hp1 : np ≤ cp) (hp2 : cp ≤ maxLen) (hp3 : np ≤ 1000000) (s0 : 0 ≤ sk) (s1 : sk < 18446744073709551616) (k0 : 0 ≤ mk) (k1 : mk < 18446744073709551616) (n0 : 0 ≤ n) (n1 : n < 18446744073709551616) (w0 : 0 ≤ m.w) (w4 : m.w ≤ 1000) (h : hrightB m tok.length = false) (hmay : mayB n m tok pay = false) :
    Calls Try.prog 8 #[.agg (kL sk mk).toArray, hdV m d, .int .u64 n, .slice Ap np cp] w (RProPost sk mk n m tok pay w) := by
  have hc3 := hp2
  unfold maxLen at hc3
  have hpl := hp.1
  have hdn : d.n = tok.length := hf.len
  obtain ⟨k, hk⟩ : ∃ k : Nat, m.w = k := ⟨m.w.toNat, by omega⟩
  have hk4 : k ≤ 1000 := by omega
  have hK0 : At (w.alloc (.cells (kL sk mk).toArray 24)) w.heap.size 24 (kL sk mk) := At.new w 24 _
  have hb0 : Below w.heap.size w (w.alloc (.cells (kL sk mk).toArray 24)) := (Below.refl _ _).alloc (Nat.le_refl _) _
  obtain ⟨K, hK⟩ : ∃ K, kL sk mk = K := ⟨_, rfl⟩
  have hKk : K[0]? = some (.int .u64 sk) := by rw [← hK]; rfl
  have hKl : K.length = 2 := by rw [← hK]; rfl
  rw [hK] at hK0 hb0 ⊢
  obtain ⟨w1, hw1⟩ : ∃ x, w.alloc (.cells K.toArray 24) = x := ⟨_, rfl⟩
  rw [hw1] at hK0 hb0
  have hH0 : At (w1.alloc (.cells (hdL m d).toArray 30)) w1.heap.size 30 (hdL m d) := At.new w1 30 _
  have hK1 := hK0.alloc (.cells (hdL m d).toArray 30)
  have hb1 := hb0.alloc hb0.size (.cells (hdL m d).toArray 30)
  have hlt0 := hK0.lt
  have HRT := Lib.hid (fun W (hW : HFits W P m d tok) => rhright_any P m d tok W hW)
  rw [hdn] at HRT
  have HE := Lib.hid (rfl : hdV m d = hdV m d)
  have hvv : hdV m d = .agg (hdL m d).toArray := rfl
  rw [hvv] at HRT HE ⊢
  obtain ⟨L, hL⟩ : ∃ L, hdL m d = L := ⟨_, rfl⟩
  have hLl : L.length = 20 := by rw [← hL]; rfl
  have hL18 : L[18]? = some (.int .i64 (k : Int)) := by rw [← hL, ← hk]; rfl
  have hL0 : L[0]? = some (.int .i64 m.s) := by rw [← hL]; rfl
  rw [hL] at hH0 hK1 hb1 HRT HE ⊢
  obtain ⟨w2, hw2⟩ : ∃ x, w1.alloc (.cells L.toArray 30) = x := ⟨_, rfl⟩
  rw [hw2] at hH0 hK1 hb1
  have hS : RkS w.heap.size w1.heap.size K L sk (k : Int) m.s w2 := ⟨hK1, hH0, by rw [hK1.cell 0, hKk], by rw [hH0.cell 18, hL18], by rw [hH0.cell 0, hL0]⟩
  have hf2 := hf.below hb1
  have hp4 := hp.below hb1
  have hlt2 := hS.h.lt
  have hltk := hS.k.lt
  have HKL := Lib.hid hKl
  have HLL := Lib.hid hLl
  have hcw := hS.cw
  clear hvv hL hK hKk hL18 hL0 hK1 hK0 hb0 hKl hdn
  rw [h] at HRT
  go_enter Try.func8, Try.ntmps8
  go_wp2_with (first | ((with_reducible refine at_ldh ?_); refine ld_hd w1.heap.size L (by rfl) hS.h HLL.out ?_) | fail)
  refine (HRT.out _ hf2).mono ?_
  rintro e w3 ⟨rfl, hb3⟩
  have hb4 := hb1.trans (hb3.mono hb1.size)
  have hS3 := hS.below hb3
  have hcw3 := hS3.cw
  go_wp2_with fail
  refine bodyPost_ret (results_tmp2 rfl _ _ _) rfl ?_
  exact RProPost.no hmay hb4
set_option maxRecDepth 100000 in
set_option maxHeartbeats 4000000 in
theorem rprotect_b (P : Nat → Prop) (sk mk n : Int) (m : HN) (d : Sl) (tok : List Int) (Ap : Option Addr) (np cp : Nat) (pay : List Int) (w : World) (hf : HFits w P m d tok) (hp : Rd w w.heap.size Ap np pay) (hp1 : np ≤ cp) (hp2 : cp ≤ maxLen) (hp3 : np ≤ 1000000) (s0 : 0 ≤ sk) (s1 : sk < 18446744073709551616) (k0 : 0 ≤ mk) (k1 : mk < 18446744073709551616) (n0 : 0 ≤ n) (n1 : n < 18446744073709551616) (w0 : 0 ≤ m.w) (w4 : m.w ≤ 1000) (h : hrightB m tok.length = true) (hc : 4611686018427387903 < n) (hmay : mayB n m tok pay = false) :
    Calls Try.prog 8 #[.agg (kL sk mk).toArray, hdV m d, .int .u64 n, .slice Ap np cp] w (RProPost sk mk n m tok pay w) := by
  have hc3 := hp2
  unfold maxLen at hc3
  have hpl := hp.1
  have hdn : d.n = tok.length := hf.len
  obtain ⟨k, hk⟩ : ∃ k : Nat, m.w = k := ⟨m.w.toNat, by omega⟩
  have hk4 : k ≤ 1000 := by omega
  have hK0 : At (w.alloc (.cells (kL sk mk).toArray 24)) w.heap.size 24 (kL sk mk) := At.new w 24 _
  have hb0 : Below w.heap.size w (w.alloc (.cells (kL sk mk).toArray 24)) := (Below.refl _ _).alloc (Nat.le_refl _) _
  obtain ⟨K, hK⟩ : ∃ K, kL sk mk = K := ⟨_, rfl⟩
  have hKk : K[0]? = some (.int .u64 sk) := by rw [← hK]; rfl
  have hKl : K.length = 2 := by rw [← hK]; rfl
  rw [hK] at hK0 hb0 ⊢
  obtain ⟨w1, hw1⟩ : ∃ x, w.alloc (.cells K.toArray 24) = x := ⟨_, rfl⟩
  rw [hw1] at hK0 hb0
  have hH0 : At (w1.alloc (.cells (hdL m d).toArray 30)) w1.heap.size 30 (hdL m d) := At.new w1 30 _
  have hK1 := hK0.alloc (.cells (hdL m d).toArray 30)
  have hb1 := hb0.alloc hb0.size (.cells (hdL m d).toArray 30)
  have hlt0 := hK0.lt
  have HRT := Lib.hid (fun W (hW : HFits W P m d tok) => rhright_any P m d tok W hW)
  rw [hdn] at HRT
  have HE := Lib.hid (rfl : hdV m d = hdV m d)
  have hvv : hdV m d = .agg (hdL m d).toArray := rfl
  rw [hvv] at HRT HE ⊢
  obtain ⟨L, hL⟩ : ∃ L, hdL m d = L := ⟨_, rfl⟩
  have hLl : L.length = 20 := by rw [← hL]; rfl
  have hL18 : L[18]? = some (.int .i64 (k : Int)) := by rw [← hL, ← hk]; rfl
  have hL0 : L[0]? = some (.int .i64 m.s) := by rw [← hL]; rfl
  rw [hL] at hH0 hK1 hb1 HRT HE ⊢
  obtain ⟨w2, hw2⟩ : ∃ x, w1.alloc (.cells L.toArray 30) = x := ⟨_, rfl⟩
  rw [hw2] at hH0 hK1 hb1
  have hS : RkS w.heap.size w1.heap.size K L sk (k : Int) m.s w2 := ⟨hK1, hH0, by rw [hK1.cell 0, hKk], by rw [hH0.cell 18, hL18], by rw [hH0.cell 0, hL0]⟩
  have hf2 := hf.below hb1
  have hp4 := hp.below hb1
  have hlt2 := hS.h.lt
  have hltk := hS.k.lt
  have HKL := Lib.hid hKl
  have HLL := Lib.hid hLl
  have hcw := hS.cw
  clear hvv hL hK hKk hL18 hL0 hK1 hK0 hb0 hKl hdn
  rw [h] at HRT
  have g1 : decide (4611686018427387903 < n) = true := by simp; omega
  go_enter Try.func8, Try.ntmps8
  go_wp2_with (first | ((with_reducible refine at_ldh ?_); refine ld_hd w1.heap.size L (by rfl) hS.h HLL.out ?_) | fail)
  refine (HRT.out _ hf2).mono ?_
  rintro e w3 ⟨rfl, hb3⟩
  have hb4 := hb1.trans (hb3.mono hb1.size)
  have hS3 := hS.below hb3
  have hcw3 := hS3.cw
  go_wp2_with fail
  refine bodyPost_ret (results_tmp2 rfl _ _ _) rfl ?_
  exact RProPost.no hmay hb4
set_option maxRecDepth 100000 in
set_option maxHeartbeats 4000000 in
theorem rprotect_c (P : Nat → Prop) (sk mk n : Int) (m : HN) (d : Sl) (tok : List Int) (Ap : Option Addr) (np cp : Nat) (pay : List Int) (w : World) (hf : HFits w P m d tok) (hp : Rd w w.heap.size Ap np pay) (hp1 : np ≤ cp) (hp2 : cp ≤ maxLen) (hp3 : np ≤ 1000000) (s0 : 0 ≤ sk) (s1 : sk < 18446744073709551616) (k0 : 0 ≤ mk) (k1 : mk < 18446744073709551616) (n0 : 0 ≤ n) (n1 : n < 18446744073709551616) (w0 : 0 ≤ m.w) (w4 : m.w ≤ 1000) (h : hrightB m tok.length = true) (hc1 : n ≤ 4611686018427387903) (hc : m.w + np < 4) (hmay : mayB n m tok pay = false) :
    Calls Try.prog 8 #[.agg (kL sk mk).toArray, hdV m d, .int .u64 n, .slice Ap np cp] w (RProPost sk mk n m tok pay w) := by
  have hc3 := hp2
  unfold maxLen at hc3
  have hpl := hp.1
  have hdn : d.n = tok.length := hf.len
  obtain ⟨k, hk⟩ : ∃ k : Nat, m.w = k := ⟨m.w.toNat, by omega⟩
  have hk4 : k ≤ 1000 := by omega
  have hK0 : At (w.alloc (.cells (kL sk mk).toArray 24)) w.heap.size 24 (kL sk mk) := At.new w 24 _
  have hb0 : Below w.heap.size w (w.alloc (.cells (kL sk mk).toArray 24)) := (Below.refl _ _).alloc (Nat.le_refl _) _
  obtain ⟨K, hK⟩ : ∃ K, kL sk mk = K := ⟨_, rfl⟩
  have hKk : K[0]? = some (.int .u64 sk) := by rw [← hK]; rfl
  have hKl : K.length = 2 := by rw [← hK]; rfl
  rw [hK] at hK0 hb0 ⊢
  obtain ⟨w1, hw1⟩ : ∃ x, w.alloc (.cells K.toArray 24) = x := ⟨_, rfl⟩
  rw [hw1] at hK0 hb0
  have hH0 : At (w1.alloc (.cells (hdL m d).toArray 30)) w1.heap.size 30 (hdL m d) := At.new w1 30 _
  have hK1 := hK0.alloc (.cells (hdL m d).toArray 30)
  have hb1 := hb0.alloc hb0.size (.cells (hdL m d).toArray 30)
  have hlt0 := hK0.lt
  have HRT := Lib.hid (fun W (hW : HFits W P m d tok) => rhright_any P m d tok W hW)
  rw [hdn] at HRT
  have HE := Lib.hid (rfl : hdV m d = hdV m d)
  have hvv : hdV m d = .agg (hdL m d).toArray := rfl
  rw [hvv] at HRT HE ⊢
  obtain ⟨L, hL⟩ : ∃ L, hdL m d = L := ⟨_, rfl⟩
  have hLl : L.length = 20 := by rw [← hL]; rfl
  have hL18 : L[18]? = some (.int .i64 (k : Int)) := by rw [← hL, ← hk]; rfl
  have hL0 : L[0]? = some (.int .i64 m.s) := by rw [← hL]; rfl
  rw [hL] at hH0 hK1 hb1 HRT HE ⊢
  obtain ⟨w2, hw2⟩ : ∃ x, w1.alloc (.cells L.toArray 30) = x := ⟨_, rfl⟩
  rw [hw2] at hH0 hK1 hb1
  have hS : RkS w.heap.size w1.heap.size K L sk (k : Int) m.s w2 := ⟨hK1, hH0, by rw [hK1.cell 0, hKk], by rw [hH0.cell 18, hL18], by rw [hH0.cell 0, hL0]⟩
  have hf2 := hf.below hb1
  have hp4 := hp.below hb1
  have hlt2 := hS.h.lt
  have hltk := hS.k.lt
  have HKL := Lib.hid hKl
  have HLL := Lib.hid hLl
  have hcw := hS.cw
  clear hvv hL hK hKk hL18 hL0 hK1 hK0 hb0 hKl hdn
  rw [h] at HRT
  have g1 : decide (4611686018427387903 < n) = false := by simp; omega
  have g2 : decide ((k : Int) + np < 4) = true := by simp; omega
  go_enter Try.func8, Try.ntmps8
  go_wp2_with (first | ((with_reducible refine at_ldh ?_); refine ld_hd w1.heap.size L (by rfl) hS.h HLL.out ?_) | fail)
  refine (HRT.out _ hf2).mono ?_
  rintro e w3 ⟨rfl, hb3⟩
  have hb4 := hb1.trans (hb3.mono hb1.size)
  have hS3 := hS.below hb3
  have hcw3 := hS3.cw
  go_wp2_with fail
  refine bodyPost_ret (results_tmp2 rfl _ _ _) rfl ?_
  exact RProPost.no hmay hb4
set_option maxRecDepth 100000 in
set_option maxHeartbeats 4000000 in
theorem rprotect_d (P : Nat → Prop) (sk mk n : Int) (m : HN) (d : Sl) (tok : List Int) (Ap : Option Addr) (np cp : Nat) (pay : List Int) (w : World) (hf : HFits w P m d tok) (hp : Rd w w.heap.size Ap np pay) (hp1 : np ≤ cp) (hp2 : cp ≤ maxLen) (hp3 : np ≤ 1000000) (s0 : 0 ≤ sk) (s1 : sk < 18446744073709551616) (k0 : 0 ≤ mk) (k1 : mk < 18446744073709551616) (n0 : 0 ≤ n) (n1 : n < 18446744073709551616) (w0 : 0 ≤ m.w) (w4 : m.w ≤ 1000) (h : hrightB m tok.length = true) (hc1 : n ≤ 4611686018427387903) (hc2 : 4 ≤ m.w + np) (hc : 512 < np) (hmay : mayB n m tok pay = false) :
    Calls Try.prog 8 #[.agg (kL sk mk).toArray, hdV m d, .int .u64 n, .slice Ap np cp] w (RProPost sk mk n m tok pay w) := by
  have hc3 := hp2
  unfold maxLen at hc3
  have hpl := hp.1
  have hdn : d.n = tok.length := hf.len
  obtain ⟨k, hk⟩ : ∃ k : Nat, m.w = k := ⟨m.w.toNat, by omega⟩
  have hk4 : k ≤ 1000 := by omega
  have hK0 : At (w.alloc (.cells (kL sk mk).toArray 24)) w.heap.size 24 (kL sk mk) := At.new w 24 _
  have hb0 : Below w.heap.size w (w.alloc (.cells (kL sk mk).toArray 24)) := (Below.refl _ _).alloc (Nat.le_refl _) _
  obtain ⟨K, hK⟩ : ∃ K, kL sk mk = K := ⟨_, rfl⟩
  have hKk : K[0]? = some (.int .u64 sk) := by rw [← hK]; rfl
  have hKl : K.length = 2 := by rw [← hK]; rfl
  rw [hK] at hK0 hb0 ⊢
  obtain ⟨w1, hw1⟩ : ∃ x, w.alloc (.cells K.toArray 24) = x := ⟨_, rfl⟩
  rw [hw1] at hK0 hb0
  have hH0 : At (w1.alloc (.cells (hdL m d).toArray 30)) w1.heap.size 30 (hdL m d) := At.new w1 30 _
  have hK1 := hK0.alloc (.cells (hdL m d).toArray 30)
  have hb1 := hb0.alloc hb0.size (.cells (hdL m d).toArray 30)
  have hlt0 := hK0.lt
  have HRT := Lib.hid (fun W (hW : HFits W P m d tok) => rhright_any P m d tok W hW)
  rw [hdn] at HRT
  have HE := Lib.hid (rfl : hdV m d = hdV m d)
  have hvv : hdV m d = .agg (hdL m d).toArray := rfl
  rw [hvv] at HRT HE ⊢
  obtain ⟨L, hL⟩ : ∃ L, hdL m d = L := ⟨_, rfl⟩
  have hLl : L.length = 20 := by rw [← hL]; rfl
  have hL18 : L[18]? = some (.int .i64 (k : Int)) := by rw [← hL, ← hk]; rfl
  have hL0 : L[0]? = some (.int .i64 m.s) := by rw [← hL]; rfl
  rw [hL] at hH0 hK1 hb1 HRT HE ⊢
  obtain ⟨w2, hw2⟩ : ∃ x, w1.alloc (.cells L.toArray 30) = x := ⟨_, rfl⟩
  rw [hw2] at hH0 hK1 hb1
  have hS : RkS w.heap.size w1.heap.size K L sk (k : Int) m.s w2 := ⟨hK1, hH0, by rw [hK1.cell 0, hKk], by rw [hH0.cell 18, hL18], by rw [hH0.cell 0, hL0]⟩
  have hf2 := hf.below hb1
  have hp4 := hp.below hb1
  have hlt2 := hS.h.lt
  have hltk := hS.k.lt
  have HKL := Lib.hid hKl
  have HLL := Lib.hid hLl
  have hcw := hS.cw
  clear hvv hL hK hKk hL18 hL0 hK1 hK0 hb0 hKl hdn
  rw [h] at HRT
  have g1 : decide (4611686018427387903 < n) = false := by simp; omega
  have g2 : decide ((k : Int) + np < 4) = false := by simp; omega
  have g3 : decide (512 < (np : Int)) = true := by simp; omega
  go_enter Try.func8, Try.ntmps8
  go_wp2_with (first | ((with_reducible refine at_ldh ?_); refine ld_hd w1.heap.size L (by rfl) hS.h HLL.out ?_) | fail)
  refine (HRT.out _ hf2).mono ?_
  rintro e w3 ⟨rfl, hb3⟩
  have hb4 := hb1.trans (hb3.mono hb1.size)
  have hS3 := hS.below hb3
  have hcw3 := hS3.cw
  go_wp2_with fail
  refine bodyPost_ret (results_tmp2 rfl _ _ _) rfl ?_
  exact RProPost.no hmay hb4
set_option maxRecDepth 100000 in
set_option maxHeartbeats 4000000 in
theorem rprotect_e (P : Nat → Prop) (sk mk n : Int) (m : HN) (d : Sl) (tok : List Int) (Ap : Option Addr) (np cp : Nat) (pay : List Int) (w : World) (hf : HFits w P m d tok) (hp : Rd w w.heap.size Ap np pay) (hp1 : np ≤ cp) (hp2 : cp ≤ maxLen) (hp3 : np ≤ 1000000) (s0 : 0 ≤ sk) (s1 : sk < 18446744073709551616) (k0 : 0 ≤ mk) (k1 : mk < 18446744073709551616) (n0 : 0 ≤ n) (n1 : n < 18446744073709551616) (w0 : 0 ≤ m.w) (w4 : m.w ≤ 1000) (h : hrightB m tok.length = true) (hc1 : n ≤ 4611686018427387903) (hc2 : 4 ≤ m.w + np) (hc3_ : np ≤ 512) (hc : 512 < ((hencS m tok (m.w + pay.length + 8)).length : Int) + (m.w + pay.length + 8)) (hmay : mayB n m tok pay = false) :
    Calls Try.prog 8 #[.agg (kL sk mk).toArray, hdV m d, .int .u64 n, .slice Ap np cp] w (RProPost sk mk n m tok pay w) := by
  obtain ⟨_, _, r1, r4, r32, _⟩ := hright_parts _ _ h
  have hbd := henc_bd m tok (m.w + pay.length + 8) r32
  have hc3 := hp2
  unfold maxLen at hc3
  have hpl := hp.1
  have hdn : d.n = tok.length := hf.len
  obtain ⟨k, hk⟩ : ∃ k : Nat, m.w = k := ⟨m.w.toNat, by omega⟩
  have hk4 : k ≤ 1000 := by omega
  have hK0 : At (w.alloc (.cells (kL sk mk).toArray 24)) w.heap.size 24 (kL sk mk) := At.new w 24 _
  have hb0 : Below w.heap.size w (w.alloc (.cells (kL sk mk).toArray 24)) := (Below.refl _ _).alloc (Nat.le_refl _) _
  obtain ⟨K, hK⟩ : ∃ K, kL sk mk = K := ⟨_, rfl⟩
  have hKk : K[0]? = some (.int .u64 sk) := by rw [← hK]; rfl
  have hKl : K.length = 2 := by rw [← hK]; rfl
  rw [hK] at hK0 hb0 ⊢
  obtain ⟨w1, hw1⟩ : ∃ x, w.alloc (.cells K.toArray 24) = x := ⟨_, rfl⟩
  rw [hw1] at hK0 hb0
  have hH0 : At (w1.alloc (.cells (hdL m d).toArray 30)) w1.heap.size 30 (hdL m d) := At.new w1 30 _
  have hK1 := hK0.alloc (.cells (hdL m d).toArray 30)
  have hb1 := hb0.alloc hb0.size (.cells (hdL m d).toArray 30)
  have hlt0 := hK0.lt
  have HRT := Lib.hid (fun W (hW : HFits W P m d tok) => rhright_any P m d tok W hW)
  rw [hdn] at HRT
  have HE := Lib.hid (fun W (hW : HFits W P m d tok) => rhenc_any P m d tok ((k : Int) + np + 8) W hW h (by omega) (by omega))
  rw [hpl, hk] at hc hbd
  obtain ⟨E, hE⟩ : ∃ E, hencS m tok ((k : Int) + np + 8) = E := ⟨_, rfl⟩
  rw [hE] at HE hc hbd
  obtain ⟨at_, hat⟩ : ∃ a, E.length = a := ⟨_, rfl⟩
  rw [hat] at hc hbd
  have hvv : hdV m d = .agg (hdL m d).toArray := rfl
  rw [hvv] at HRT HE ⊢
  obtain ⟨L, hL⟩ : ∃ L, hdL m d = L := ⟨_, rfl⟩
  have hLl : L.length = 20 := by rw [← hL]; rfl
  have hL18 : L[18]? = some (.int .i64 (k : Int)) := by rw [← hL, ← hk]; rfl
  have hL0 : L[0]? = some (.int .i64 m.s) := by rw [← hL]; rfl
  rw [hL] at hH0 hK1 hb1 HRT HE ⊢
  obtain ⟨w2, hw2⟩ : ∃ x, w1.alloc (.cells L.toArray 30) = x := ⟨_, rfl⟩
  rw [hw2] at hH0 hK1 hb1
  have hS : RkS w.heap.size w1.heap.size K L sk (k : Int) m.s w2 := ⟨hK1, hH0, by rw [hK1.cell 0, hKk], by rw [hH0.cell 18, hL18], by rw [hH0.cell 0, hL0]⟩
  have hf2 := hf.below hb1
  have hp4 := hp.below hb1
  have hlt2 := hS.h.lt
  have hltk := hS.k.lt
  have HKL := Lib.hid hKl
  have HLL := Lib.hid hLl
  have hcw := hS.cw
  clear hvv hL hK hKk hL18 hL0 hK1 hK0 hb0 hKl hdn
  rw [h] at HRT
  have HAT := Lib.hid hat
  clear hE hat
  have g1 : decide (4611686018427387903 < n) = false := by simp; omega
  have g2 : decide ((k : Int) + np < 4) = false := by simp; omega
  have g3 : decide (512 < (np : Int)) = false := by simp; omega
  have g4 : decide (512 < (at_ : Int) + ((k : Int) + np + 8)) = true := by simp; omega
  go_enter Try.func8, Try.ntmps8
  go_wp2_with (first | ((with_reducible refine at_ldh ?_); refine ld_hd w1.heap.size L (by rfl) hS.h HLL.out ?_) | fail)
  refine (HRT.out _ hf2).mono ?_
  rintro e w3 ⟨rfl, hb3⟩
  have hb4 := hb1.trans (hb3.mono hb1.size)
  have hS3 := hS.below hb3
  have hcw3 := hS3.cw
  have hf3 := hf2.below hb3
  go_wp2_with (first | ((with_reducible refine at_ldh ?_); refine ld_hd w1.heap.size L (by rfl) hS3.h HLL.out ?_) | fail)
  refine (HE.out _ hf3).mono ?_
  rintro e w4 ⟨v4, rfl, ho4, hb5⟩
  obtain ⟨A4, c4, rfl, q1, q2, _⟩ := ho4.open_n at_ HAT.out
  go_wp2_with fail
  refine bodyPost_ret (results_tmp2 rfl _ _ _) rfl ?_
  exact RProPost.no hmay (hb4.trans (hb5.mono hb4.size))
end Go.Proofs.Ytehdilgnlhhjdaa
