/-
  Text of both readers; Of of package octet.
-/
import Derived.Test.YtphpdaldplkgmaaGreatMq5
import Derived.Test.YtphpdaldplkgmaaGreatMq0
import Derived.Laws.CopyOwn
import Derived.BigRegion
import Derived.IntWalk
namespace Go.Proofs.YtphpdaldplkgmaaGreat
section
set_option linter.unusedVariables false
open Go.RowKit
end
section
set_option linter.unusedVariables false
set_option linter.unusedSimpArgs false
open Go.RowKit
theorem Kept.of_belowB {B : Nat} {w w' : World} (h : Below B w w') : Kept (fun j => B ≤ j) w w' := ⟨h.os, h.tape, h.output, h.size, fun j _ hn => h.block j (by omega)⟩
theorem Rdr.mono {w : World} {p : Nat} {T : TypeId} {P P' : Nat → Prop} {s : St} (h : Rdr w p T P s) (hp : ∀ b, b < w.heap.size → P b → P' b) : Rdr w p T P' s := by
  obtain ⟨A, n, c, h1, h2, h3, h4, h5, h6⟩ := h
  exact ⟨A, n, c, h1, h2, h3, h4, h5.mono hp, h6⟩
theorem cid_info : (Tryz.prog.info? 52).map (·.size) = some 8 := by kernel_rfl
end
section
set_option linter.unusedVariables false
set_option linter.unusedSimpArgs false
open Go.RowKit
end
section
set_option linter.unusedVariables false
set_option linter.unusedSimpArgs false
open Go.RowKit
/-- The cells of ranges. -/
def rsC (rs : RS) : List Value := rs.flatMap fun r => [.int .u64 r.1, .int .u64 r.2]
theorem rsC_get : ∀ (rs : RS) (i : Nat) (r : Int × Int), rs[i]? = some r → (rsC rs)[i * 2]? = some (.int .u64 r.1) ∧ (rsC rs)[i * 2 + 1]? = some (.int .u64 r.2)
  | [], i, r, h => by simp at h
  | x :: t, 0, r, h => by
    simp at h
    subst h
    exact ⟨rfl, rfl⟩
  | x :: t, i + 1, r, h => by
    have := rsC_get t i r (by simpa using h)
    unfold rsC at *
    rw [List.flatMap_cons]
    constructor
    · rw [show (i + 1) * 2 = [Value.int .u64 x.1, Value.int .u64 x.2].length + i * 2 by simp; omega, List.getElem?_append_right (by omega)]
      simpa using this.1
    · rw [show (i + 1) * 2 + 1 = [Value.int .u64 x.1, Value.int .u64 x.2].length + (i * 2 + 1) by simp; omega, List.getElem?_append_right (by omega)]
      simpa using this.2
theorem rsC_app (a b : RS) : rsC (a ++ b) = rsC a ++ rsC b := by unfold rsC; exact List.flatMap_append
/-- Each bound is a number of 64 bits. -/
def Wd (rs : RS) : Prop := ∀ r ∈ rs, 0 ≤ r.1 ∧ r.1 < 18446744073709551616 ∧ 0 ≤ r.2 ∧ r.2 < 18446744073709551616
/-- The value v is a slice that the call made itself (no block below base), of the ranges rs. -/
def OwnR (w : World) (base : Nat) (v : Value) (rs : RS) : Prop := w.ownsRow base 81 2 v rs.length (rsC rs) ∧ Wd rs
theorem OwnR.open_ {w : World} {base : Nat} {v : Value} {rs : RS} (h : OwnR w base v rs) (n : Nat) (hn : rs.length = n) :
    ∃ A c, v = .slice A n c ∧ InR w (fun b => v.ownBlock = some b) ⟨A, n, c⟩ rs := by
  subst hn
  rcases h.1.2 with ⟨rfl, h0⟩ | ⟨g, cap, cur, rfl, hb, hg, h1, h2, h3, h4⟩
  · obtain rfl : rs = [] := List.eq_nil_of_length_eq_zero h0
    exact ⟨none, 0, rfl, ⟨RgP.none_ _ _ _, Nat.le_refl _, by unfold maxLen; exact Nat.zero_le _, fun _ => rfl⟩⟩
  · have hlt : g < w.heap.size := by
      rcases Nat.lt_or_ge g w.heap.size with hlt | hge
      · exact hlt
      · rw [Array.getElem?_eq_none hge] at hg; cases hg
    refine ⟨_, cap, rfl, ⟨⟨rfl, h.2, fun hp => ⟨g, 0, rfl, hlt, rfl, fun i r hr => ?_⟩⟩, h1, h2, fun e => by cases e⟩⟩
    have hi := (List.getElem?_eq_some_iff.1 hr).1
    have hq := rsC_get rs i r hr
    rw [← h4, List.getElem?_take_of_lt (by omega), List.getElem?_take_of_lt (by omega)] at hq
    rw [cell_of_row w g _ cur _ (0, 0) hg, cell_of_row w g _ cur _ (0, 0) hg, Nat.zero_add]
    simpa using hq
theorem OwnR.keep {w w' : World} {base : Nat} {v : Value} {rs : RS} (h : OwnR w base v rs) (hk : ∀ k, v.ownBlock = some k → w'.heap[k]? = w.heap[k]?) : OwnR w' base v rs := by
  refine ⟨⟨h.1.1, ?_⟩, h.2⟩
  rcases h.1.2 with h0 | ⟨g, cap, cur, rfl, h2, h3, h4⟩
  · exact .inl h0
  · exact .inr ⟨g, cap, cur, rfl, h2, (hk g rfl).trans h3, h4⟩
theorem OwnR.block_lt {w : World} {base : Nat} {v : Value} {rs : RS} (h : OwnR w base v rs) : ∀ k, v.ownBlock = some k → base ≤ k ∧ k < w.heap.size := by
  intro k hk
  rcases h.1.2 with ⟨rfl, _⟩ | ⟨g, cap, cur, rfl, h2, h3, _⟩
  · simp [Value.ownBlock] at hk
  · simp [Value.ownBlock] at hk
    subst hk
    refine ⟨h2, ?_⟩
    rcases Nat.lt_or_ge g w.heap.size with hlt | hge
    · exact hlt
    · rw [Array.getElem?_eq_none hge] at h3; cases h3
theorem OwnR.kept {S : Nat → Prop} {w w' : World} {base : Nat} {v : Value} {rs : RS} (h : OwnR w base v rs) (k : Kept S w w') (hs : ∀ j, v.ownBlock = some j → ¬ S j) : OwnR w' base v rs := h.keep fun j hj => k.block j (h.block_lt j hj).2 (hs j hj)
theorem OwnR.shape {w : World} {base : Nat} {v : Value} {rs : RS} (h : OwnR w base v rs) : ∃ A n c, v = .slice A n c := by
  obtain ⟨A, c, h, _⟩ := h.open_ _ rfl
  exact ⟨A, _, c, h⟩
theorem OwnR.base_ {w : World} {base base' : Nat} {v : Value} {rs : RS} (h : OwnR w base v rs) (hb : base' ≤ base) : OwnR w base' v rs := by
  refine ⟨⟨h.1.1, ?_⟩, h.2⟩
  rcases h.1.2 with h0 | ⟨g, cap, cur, h1, h2, h3⟩
  · exact .inl h0
  · exact .inr ⟨g, cap, cur, h1, by omega, h3⟩
/-- A literal of one range. -/
theorem OwnR.one (w : World) (base g : Nat) (a b : Int) (hg : g = w.heap.size) (hb : base ≤ g) (hw : Wd [(a, b)]) : OwnR (w.alloc (.cells #[.int .u64 a, .int .u64 b] 81)) base (.slice (some ⟨g, 0, none⟩) 1 1) [(a, b)] := by
  subst hg
  exact ⟨⟨rfl, .inr ⟨_, 1, _, rfl, hb, heap_alloc_new w _, Nat.le_refl _, by unfold maxLen; omega, rfl, rfl⟩⟩, hw⟩
theorem rg_info : (Tryz.prog.info? 81).map (fun i => (i.zero, i.size, i.bytes)) = some (some (.agg #[.int .u64 0, .int .u64 0]), 2, 16) := by kernel_rfl
/-- append(v, x) of one thing of more than one cell, which lies in a block of its own. -/
theorem wpList_append_1 {P : Program} {w : World} {ops : Array Oper} {rest : List Oper} {o : Oper} {a : Act} {Q : Exit → Act → World → Prop} (hgd : o.guard = none) (s x : Operand) (t : TypeId)
    (ho : o.op = .call { callee := .builtin .append, args := #[s, x], argTypes := #[t, t] })
    (base : Nat) (e : TypeId) (i : TypeInfo) (z : Value) (size bytes : Nat) (ht : P.underlying t = some (.slice e)) (hi : P.info? e = some i) (hz : i.zero = some z) (hsize : i.size = size) (hby : i.bytes = bytes) (hzs : z.cells.size = size) (hsz : 0 < size)
    (v : Value) (n : Nat) (xs : List Value) (hs : a.eval s = v) (hown : w.ownsRow base e size v n xs) (g c : Nat) (news : List Value) (T : TypeId) (hx : a.eval x = .slice (some ⟨g, 0, none⟩) 1 c) (hl : news.length = size) (hcell : At w g T news) (h1 : ∀ u ∈ news, u.oneCell' = true)
    (h63 : n + 1 ≤ maxLen) (hbytes : (n + 1) * bytes ≤ 140737488355328) (hbase : base ≤ w.heap.size)
    (h : ∀ v' w', w'.ownsRow base e size v' (n + 1) (xs ++ news) → w.grownBy w' v.ownBlock → (v'.ownBlock = v.ownBlock ∨ v'.ownBlock = some w.heap.size) → wpList P ops Q rest (a.put o.dst v') w') : wpList P ops Q (o :: rest) a w := by
  refine wpList_plain hgd fun K hK => ?_
  obtain ⟨v', w', k1, k2, k3, _, k5⟩ := run_append_own_at (P := P) (w := w) base t o.type e i z size bytes ht hi hz hsize hby hzs hsz v n xs hown ⟨g, 0, none⟩ 1 c news (by omega) (fun j u hu => by rw [addr_add, Nat.zero_add, hcell.cell, hu]) h1 h63 hbytes hbase
  unfold Oper.wp
  simp [execOp, ho, resolve, invoke, builtin, hs, hx, k1, Result.andThen]
  exact hK _ _ (h v' w' k2 k3 k5)
theorem wpList_append_r {w : World} {ops : Array Oper} {rest : List Oper} {o : Oper} {a : Act} {Q : Exit → Act → World → Prop} (hgd : o.guard = none) (s x : Operand)
    (ho : o.op = .call { callee := .builtin .append, args := #[s, x], argTypes := #[50, 50] }) (base : Nat) (v : Value) (rs : RS) (hs : a.eval s = v) (hown : OwnR w base v rs) (g c : Nat) (lo hi : Int)
    (hx : a.eval x = .slice (some ⟨g, 0, none⟩) 1 c) (hcell : At w g 81 [.int .u64 lo, .int .u64 hi]) (hwd : Wd [(lo, hi)]) (hl : rs.length ≤ 1000) (hbase : base ≤ w.heap.size)
    (h : ∀ v' w', OwnR w' base v' (rs ++ [(lo, hi)]) → w.grownBy w' v.ownBlock → (v'.ownBlock = v.ownBlock ∨ v'.ownBlock = some w.heap.size) → wpList Tryz.prog ops Q rest (a.put o.dst v') w') : wpList Tryz.prog ops Q (o :: rest) a w := by
  have hI := rg_info
  cases hq : Tryz.prog.info? 81 with
  | none => rw [hq] at hI; cases hI
  | some i =>
    rw [hq] at hI
    simp only [Option.map_some, Option.some.injEq, Prod.mk.injEq] at hI
    refine wpList_append_1 hgd s x _ ho base 81 i _ 2 16 Tryz.underlying50 hq hI.1 hI.2.1 hI.2.2 rfl (by omega) v rs.length (rsC rs) hs hown.1 g c [.int .u64 lo, .int .u64 hi] _ hx rfl hcell (fun u hu => by simp at hu; rcases hu with rfl | rfl <;> rfl) (by unfold maxLen; omega) (by omega) hbase (fun v' w' k1 k2 k3 => h v' w' ⟨?_, ?_⟩ k2 k3)
    · rw [rsC_app, List.length_append]; exact k1
    · intro r hr
      rcases List.mem_append.1 hr with hr | hr
      · exact hown.2 r hr
      · exact hwd r hr
/-- Behind t exchanges. -/
def revAt (rs : RS) (t i : Nat) : Option (Int × Int) := if i < t ∨ rs.length ≤ i + t then rs[rs.length - 1 - i]? else rs[i]?
/-- What Reverse's loop keeps: the row's block, its cells. -/
structure RevAt (w : World) (g : Nat) (rs : RS) (t : Nat) (wr : World) : Prop where
  kp : Kept (· = g) w wr
  ex : ∃ C : List Value, At wr g 81 C
  ce : ∀ (i : Nat) (r : Int × Int), i < rs.length → revAt rs t i = some r → wr.cell? ⟨g, i * 2, none⟩ = some (.int .u64 r.1) ∧ wr.cell? ⟨g, i * 2 + 1, none⟩ = some (.int .u64 r.2)
theorem RevAt.drew {w wr : World} {g : Nat} {rs : RS} {t : Nat} (h : RevAt w g rs t wr) : RevAt w g rs t wr.drew := ⟨h.kp.drew, h.ex.imp fun _ h => h.drew, h.ce⟩
end
end Go.Proofs.YtphpdaldplkgmaaGreat
