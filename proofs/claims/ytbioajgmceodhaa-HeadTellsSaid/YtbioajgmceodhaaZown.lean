/-
  append(s, make([]T, k)...) onto a row of the call's own that is not empty, whether there is room or not.
-/
import Derived.Test.YtbioajgmceodhaaZeros
import Derived.Test.YtbioajgmceodhaaStru
import Derived.Test.YtbioajgmceodhaaWtr
import Derived.Laws.IdiomCopy
namespace Go.Proofs.Ytbioajgmceodhaa
set_option linter.unusedVariables false
set_option linter.unusedSimpArgs false
open Go.RowKit
theorem wpList_append_zeros_own {P : Program} {w : World} {ops : Array Oper} {rest : List Oper} {o : Oper} {a : Act} {Q : Exit → Act → World → Prop} (hgd : o.guard = none) (s x : Operand) (t tn : TypeId)
    (ho : o.op = .call { callee := .builtin .append, args := #[s, x], argTypes := #[t, tn] })
    (base : Nat) (e : TypeId) (i : TypeInfo) (kn kq : IntKind) (ht : P.underlying t = some (.slice e)) (htn : P.underlying tn = some (.int kn)) (hi : P.info? e = some i) (hz : i.zero = some (.int .u8 0)) (hsize : i.size = 1) (hby : i.bytes = 1)
    (v : Value) (k : Nat) (bs : List Int) (hs : a.eval s = v) (hown : Own w base e v bs) (hm : 0 < bs.length) (hx : a.eval x = .int kq (k : Int)) (hk : 0 < k)
    (hlen : bs.length + k ≤ 140737488355000) (w0 : World) (hb : Below base w0 w) (hbase : base ≤ w.heap.size)
    (h : ∀ v' w', Own w' base e v' (bs ++ List.replicate k 0) → Below base w0 w' → wpList P ops Q rest (a.put o.dst v') w') : wpList P ops Q (o :: rest) a w := by
  obtain ⟨A, c, rfl, h1, h2, h3⟩ := hown.open_
  by_cases hr : bs.length + k ≤ c
  · rcases hown.1.2 with ⟨h0, _⟩ | ⟨g, cap, cur, hv, hbg, hg, hnc, hcm, hcs, htake⟩
    · injection h0 with e1 e2 e3; omega
    · injection hv with e1 e2 e3
      subst e1; subst e3
      have hA : At w g e cur.toList := hg
      have hl : cur.toList.length = c := by simp; omega
      have hA' := At.setFrom (List.replicate k (Value.int .u8 0)) cur.toList bs.length w hA
      have hkk := Kept.setCells (S := (· = g)) (w0 := w) rfl (List.replicate k (Value.int .u8 0)) bs.length w (Kept.refl _ _)
      have hsf := setFrom_eq (List.replicate k (Value.int .u8 0)) cur.toList bs.length (by simp; omega)
      have hst := run_storeCells_cells (P := P) g bs.length (List.replicate k (Value.int .u8 0)) 0 w
        (fun j hj => by rw [hA.cell]; simp at hj ⊢; omega) (fun j hj => hA.frozen _) (fun v hv => by rw [List.eq_of_mem_replicate hv]; rfl)
      simp only [Nat.add_zero] at hst
      have hzc : (Builtin.zeroCells (Value.int .u8 0).cells k).toList = List.replicate k (Value.int .u8 0) := zero_cells k
      have hw : IntKind.i64.wrap (k : Int) = k := by rw [IntKind.wrap_i64]; omega
      have hneg : ¬ ((k : Int) < 0) := by omega
      have h48i : ¬ (281474976710656 < (k : Int)) := by omega
      have hns : ¬ k = 0 := by omega
      have hrun : (Builtin.append_ #[t, tn] o.type #[.slice (some ⟨g, 0, none⟩) bs.length c, .int kq k]).run P w = .ok (.slice (some ⟨g, 0, none⟩) (bs.length + k) c) (w.setCells g bs.length (List.replicate k (Value.int .u8 0))) := by
        simp [Builtin.append_, run_underlying ht, run_underlying htn, sizeOf, typeInfo, zeroValue, hi, hz, asInt, asIntOf, hw, hneg, hsize, hby, h48i, hns, hr, hzc, Addr.add_lit, hst]
      refine Lib.wpList_append_run w hgd s x t tn ho _ _ hs hx _ _ hrun (h _ _ ?_ (hkk.below hb hbase (fun j hj => by omega)))
      have hbz : Byt (List.replicate k 0) := fun y hy => by rw [List.eq_of_mem_replicate hy]; omega
      refine Own.of_block (hown.2.app hbz) (by simp) hA' hbg hr hcm ?_ ?_
      · rw [hsf]; simp; omega
      · show (setFrom cur.toList bs.length (List.replicate k (Value.int .u8 0))).take _ = _
        have ht1 : cur.toList.take bs.length = bs.map (Value.int .u8) := by simpa using htake
        rw [hsf, ht1, List.map_append, List.map_replicate]
        rw [List.take_append_of_le_length (by simp), List.take_of_length_le (by simp)]
  · refine wpList_append_zeros_rd hgd s x t tn ho base e i kn kq ht htn hi hz hsize hby _ A bs.length c k bs hs h3 hm hx hk (by omega) (by omega) w0 hb hbase (fun v' w' h1 h2 _ => h v' w' h1 h2)
end Go.Proofs.Ytbioajgmceodhaa
