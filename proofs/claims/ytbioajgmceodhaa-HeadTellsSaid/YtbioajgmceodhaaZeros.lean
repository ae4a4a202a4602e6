/-
  The law of append(s, make([]byte, k)...) where s has no room for k more: a new row, s's bytes and k zeros behind them. Condition: fewer than 2^47 bytes in all.
-/
import Derived.Test.YtbioajgmceodhaaBytes
import Derived.Lib.AppendZerosOnto
namespace Go.Proofs.Ytbioajgmceodhaa
set_option linter.unusedVariables false
open Go.RowKit
theorem zero_cells (k : Nat) : (Builtin.zeroCells (Value.int .u8 0).cells k).toList = List.replicate k (Value.int .u8 0) := by
  apply List.ext_getElem?
  intro j
  have hc : (Value.int .u8 0).cells = #[Value.int .u8 0] := rfl
  rw [hc, Array.getElem?_toList]
  unfold Builtin.zeroCells
  rcases Nat.lt_or_ge j k with h | h
  · simp [h, Nat.mod_one]
  · simp [Nat.not_lt.2 h]
theorem wpList_append_zeros_rd {P : Program} {w : World} {ops : Array Oper} {rest : List Oper} {o : Oper} {a : Act} {Q : Exit → Act → World → Prop} (hgd : o.guard = none) (s x : Operand) (t tn : TypeId)
    (ho : o.op = .call { callee := .builtin .append, args := #[s, x], argTypes := #[t, tn] })
    (base : Nat) (e : TypeId) (i : TypeInfo) (kn kq : IntKind) (ht : P.underlying t = some (.slice e)) (htn : P.underlying tn = some (.int kn)) (hi : P.info? e = some i) (hz : i.zero = some (.int .u8 0)) (hsize : i.size = 1) (hby : i.bytes = 1)
    (B : Nat) (A : Option Addr) (m mc k : Nat) (bs : List Int) (hs : a.eval s = .slice A m mc) (hr : Rd w B A m bs) (hm : 0 < m) (hx : a.eval x = .int kq (k : Int)) (hk : 0 < k) (hg : mc < m + k)
    (hlen : m + k ≤ 140737488355328) (w0 : World) (hb : Below base w0 w) (hbase : base ≤ w.heap.size)
    (h : ∀ v' w', Own w' base e v' (bs ++ List.replicate k 0) → Below base w0 w' → Below w.heap.size w w' → wpList P ops Q rest (a.put o.dst v') w') : wpList P ops Q (o :: rest) a w := by
  obtain ⟨ad, rfl, hc⟩ := hr.cells hm
  have hold : (Builtin.firstCells i.size m (.slice (some ad) m mc)).run P w.drew = .ok (bs.map (Value.int .u8)).toArray w.drew := by
    have := run_loadCells_list (P := P) w.drew ad (bs.map (Value.int .u8)) (fun j v hj => hc j v hj)
    rw [List.length_map, hr.1] at this
    show (loadCells ad (m * i.size)).run P w.drew = _
    rw [hsize, Nat.mul_one]; exact this
  have hrun := Lib.run_append_grow_zeros (P := P) w t tn o.type e i (.int .u8 0) kq kn ht htn hi hz (some ad) m mc _ hold k hk (by omega) hg (by omega) (by rw [hby]; omega) (growslice_fits hg (by rw [hby]; omega))
  refine Lib.wpList_append_run w hgd s x t tn ho _ _ hs hx _ _ hrun (h _ _ ?_ (hb.drew.alloc hbase _) ((Below.refl _ _).drew.alloc (Nat.le_refl _) _))
  have hge := grownCap_ge w (m + k) mc e
  have hle := grownCap_le_maxLen w (m + k) mc e (by unfold maxLen; omega)
  have hbz : Byt (List.replicate k 0) := fun y hy => by rw [List.eq_of_mem_replicate hy]; omega
  refine Own.of_block (hr.2.1.app hbz) (by simp [hr.1]) (heap_alloc_new w.drew _) hbase hge hle ?_ ?_
  · have hc1 : (Value.int .u8 0).cells.size = 1 := rfl
    have hl := hr.1
    simp [size_zeroCells, hc1]; omega
  · have hl := hr.1
    rw [Array.toList_append, Array.toList_append, zero_cells, zero_cells, List.map_append, List.map_replicate]
    rw [List.take_append_of_le_length (by simp; omega), List.take_of_length_le (by simp; omega)]
end Go.Proofs.Ytbioajgmceodhaa
