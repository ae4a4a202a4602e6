/-
  Text of both readers; Of of package octet.
-/
import Derived.Test.YtehdilgnlhhjdaaMq2
import Derived.Test.YtehdilgnlhhjdaaMq0
import Derived.Deep.MidRow
import Derived.Laws.CopyOwn
import Derived.Test.YtehdilgnlhhjdaaProg
import Derived.ChangeKeysEq
import Derived.OpenShut
import Derived.Deep.Slices
import Derived.ChangeSlices
import Derived.Test.YtehdilgnlhhjdaaMq1
import Derived.Deep.QuietTactic
import Derived.BigQuiet
import Derived.Deep.RegionHeld3
import Derived.WalkSpells
namespace Go.Proofs.Ytehdilgnlhhjdaa
section
set_option linter.unusedVariables false
open Go.RowKit
set_option maxRecDepth 100000 in
theorem takeN_le (s : St) (n : Int) : (takeN s n).1.length ≤ s.1.length := by
  unfold takeN
  split
  · simp
  · simp
set_option maxRecDepth 100000 in
theorem varN_le (s : St) : (varN s).1.length ≤ s.1.length := by
  unfold varN
  split
  · simp
  · exact takeN_le _ _
set_option maxRecDepth 100000 in
theorem take_out (s : St) (x : Int) (h : (s.1.length : Int) < x) : takeR s x = [] ∧ takeN s x = ([], true) := by
  unfold takeR takeN
  rw [if_neg (by omega), if_neg (by omega)]; exact ⟨rfl, rfl⟩
set_option maxRecDepth 100000 in
theorem text_any (p : Nat) (T : TypeId) (P : Nat → Prop) (s : St) (w : World) (hr : Rdr w p T P s) (hP : ∀ b, P b → b ≠ p) (hl : s.1.length ≤ 140737488355000) :
    Calls Try.prog 100 #[.pointer (some ⟨p, 0, none⟩)] w (RawPost w p T P (textR s) (textN s)) := by
  have hbd := varR_bd s hr.byt
  have hvl := varN_le s
  have R1 := Lib.hid (show textR s = takeR (varN s) (varR s) from rfl)
  have R2 := Lib.hid (show textN s = takeN (varN s) (varR s) from rfl)
  go_enter Try.func100, Try.ntmps100
  go_wp2_with fail
  refine (var_any p T P s w hr hP).mono ?_
  rintro e w1 ⟨rfl, hr1, hk1⟩
  clear hr
  obtain ⟨x, hx⟩ : ∃ x, varR s = x := ⟨_, rfl⟩
  obtain ⟨s2, hs2⟩ : ∃ s2, varN s = s2 := ⟨_, rfl⟩
  rw [hx] at hbd R1 R2
  rw [hs2] at hr1 R1 R2 hvl
  rw [hx]
  clear hx hs2
  obtain ⟨hx0, hx1⟩ := hbd
  have HR := Lib.hid hr1
  obtain ⟨A, m, c, hA, hmc, hc, hAc, hrd, hbad⟩ := hr1
  have hc' := hc
  unfold maxLen at hc'
  have hlen := hrd.len
  have c0 := hA.cell 0
  have hto := take_out s2 x
  rw [hlen] at hvl hto
  have H := Lib.hid hA; clear hA hbad
  have HL := Lib.hid hlen; clear hlen
  rcases Int.lt_or_le (m : Int) x with hlt | hge
  · have T1 := Lib.hid (hto hlt)
    clear hto
    go_wp2_with fail
    refine (spoil_any p T _ _ w1 H.out).mono ?_
    rintro e w2 ⟨rfl, hA', hk'⟩
    go_wp2_with fail
    go_ret
    exact ⟨_, rfl, by rw [R1.out, T1.out.1]; exact Own.none_ _ _ _, by rw [R2.out, T1.out.2]; exact Rdr.of_spoil hA', hk1.trans hk'⟩
  · clear hto
    go_wp2_with fail
    refine (raw_any p T P s2 x w1 HR.out hP (by rw [HL.out]; omega)).mono ?_
    rintro e w2 ⟨v, rfl, hown, hr', hk'⟩
    go_wp2_with fail
    go_ret
    exact ⟨_, rfl, by rw [R1.out]; exact hown.base_ hk1.size, by rw [R2.out]; exact hr', hk1.trans hk'⟩
set_option maxRecDepth 100000 in
theorem of_any (A : Option Addr) (n c : Nat) (bs : List Int) (w : World) (hr : Rd w w.heap.size A n bs) (hc : n ≤ 140737488355000) (hA : A = none → c = 0) :
    Calls Try.prog 71 #[.slice A n c] w fun e w' => ∃ p, e = .returned (.pointer (some ⟨p, 0, none⟩)) ∧ w.heap.size ≤ p ∧
      Rdr w' p 131 (fun b => w.heap.size ≤ b ∧ b < p) (bs, false) ∧ Below w.heap.size w w' := by
  have HL := Lib.hid hr.1
  go_enter Try.func71, Try.ntmps71
  go_wp2_with fail
  refine (clone_any A n c bs w hr hc hA).mono ?_
  rintro e w1 ⟨v, rfl, hown, hb⟩
  have hsz := hb.size
  obtain ⟨A', c', rfl, h1, h2, h3⟩ := hown.open_n n HL.out
  have hAc : A' = none → c' = 0 := by
    intro h
    subst h
    rcases hown.1.2 with ⟨h, _⟩ | ⟨g, cap, cur, h, _⟩
    · injection h
    · injection h with h; cases h
  have hP := (hown.rdP HL.out).mono (P' := fun b => w.heap.size ≤ b ∧ b < w1.heap.size) (fun b hb' e => ⟨(hown.block_lt b e).1, hb'⟩)
  go_wp2_with fail
  go_ret
  refine ⟨_, rfl, hsz, ⟨A', n, c', At.new w1 _ _, h1, h2, hAc, hP.kept ((Kept.refl (fun _ => False) _).alloc _) (fun _ _ h => h), fun h => by cases h⟩, hb.alloc hsz _⟩
end
section
set_option linter.unusedVariables false
open Go.RowKit
def setFrom : List Value → Nat → List Value → List Value
  | l, _, [] => l
  | l, o, v :: r => setFrom (l.set o v) (o + 1) r
theorem setFrom_eq : ∀ (vs l : List Value) (o : Nat), o + vs.length ≤ l.length → setFrom l o vs = l.take o ++ vs ++ l.drop (o + vs.length)
  | [], l, o, h => by simp [setFrom]
  | v :: r, l, o, h => by
    simp at h
    rw [setFrom, setFrom_eq r (l.set o v) (o + 1) (by simp; omega)]
    have h1 : (l.set o v).take (o + 1) = l.take o ++ [v] := by
      rw [List.take_set, List.take_succ_eq_append_getElem (by omega), List.set_append_right _ _ (by simp; omega)]
      simp [List.length_take, Nat.min_eq_left (show o ≤ l.length by omega)]
    have h2 : (l.set o v).drop (o + 1 + r.length) = l.drop (o + (v :: r).length) := by
      rw [List.drop_set_of_lt (by omega)]
      simp [Nat.add_assoc, Nat.add_comm 1]
    rw [h1, h2]
    simp
theorem setFrom_all (l vs : List Value) (h : l.length = vs.length) : setFrom l 0 vs = vs := by
  rw [setFrom_eq vs l 0 (by omega)]
  simp [h]
section
variable {w : World} {p : Nat} {T : TypeId}
theorem At.setFrom : ∀ (vs l : List Value) (o : Nat) (w : World), At w p T l → At (w.setCells p o vs) p T (setFrom l o vs)
  | [], l, o, w, h => h
  | v :: r, l, o, w, h => At.setFrom r (l.set o v) (o + 1) (w.setCell ⟨p, o, none⟩ v) (h.set o v)
theorem Kept.setCells {S : Nat → Prop} {w0 : World} (hp : S p) : ∀ (vs : List Value) (o : Nat) (w : World), Kept S w0 w → Kept S w0 (w.setCells p o vs)
  | [], o, w, h => h
  | v :: r, o, w, h => Kept.setCells hp r (o + 1) (w.setCell ⟨p, o, none⟩ v) (h.setCell (.inl hp) v)
theorem At.there {l : List Value} (h : At w p T l) (n : Nat) (hn : n ≤ l.length) : w.there p 0 n := fun j hj => by
  rw [Nat.zero_add, h.cell, h.frozen]
  simp
  omega
theorem At.rangeAt {l : List Value} (h : At w p T l) : w.rangeAt p 0 l := fun j v hv => by rw [Nat.zero_add, h.cell, hv]
theorem setCells_top : ∀ (vs l : List Value) (o : Nat), (w.alloc (.cells l.toArray T)).setCells w.heap.size o vs = w.alloc (.cells (setFrom l o vs).toArray T)
  | [], l, o => rfl
  | v :: r, l, o => by
    rw [World.setCells, World.setCell_alloc_at _ _ _ _ _ rfl]
    have := setCells_top r (l.set o v) (o + 1)
    rw [show (l.toArray.setIfInBounds o v) = (l.set o v).toArray by simp]
    exact this
end
section
variable {P : Program} {ops : Array Oper} {rest : List Oper} {a : Act} {w : World} {Q : Exit → Act → World → Prop} {dst : Option Tmp} {x y : Operand} {ty t : TypeId} {pos : String} {after : Array Edge}
/-- The store: behind it the block holds what was stored; the world is a letter. -/
theorem wpList_store_at (p : Nat) (T : TypeId) (l l' : List Value) (hx : a.eval x = .pointer (some ⟨p, 0, none⟩)) (hy : a.eval y = .agg l'.toArray) (hA : At w p T l) (hl : l.length = l'.length)
    (hi : (P.info? ty).map (·.size) = some l'.length) (h1 : l'.all (·.oneCell') = true) (h : ∀ w', At w' p T l' → Kept (· = p) w w' → wpList P ops Q rest (a.put dst undef) w') :
    wpList P ops Q (⟨dst, .store ty x y, t, pos, after, none⟩ :: rest) a w := by
  refine wpList_store_mid rfl ty x y rfl p 0 l'.toArray hx hy (by simpa using hA.there _ (by omega)) (by simpa using hi) (by simpa using h1) ?_
  have := At.setFrom l' l 0 w hA
  rw [setFrom_all l l' hl] at this
  exact h _ (by simpa using this) (by simpa using Kept.setCells (S := (· = p)) rfl l' 0 w (Kept.refl _ _))
/-- The store into the newest block. -/
theorem wpList_store_top (w0 : World) (T : TypeId) (l l' : List Value) (hw : w = w0.alloc (.cells l.toArray T)) (g : Nat) (hx : a.eval x = .pointer (some ⟨g, 0, none⟩)) (hg : g = w0.heap.size) (hy : a.eval y = .agg l'.toArray) (hl : l.length = l'.length)
    (hi : (P.info? ty).map (·.size) = some l'.length) (h1 : l'.all (·.oneCell') = true) (h : wpList P ops Q rest (a.put dst undef) (w0.alloc (.cells l'.toArray T))) :
    wpList P ops Q (⟨dst, .store ty x y, t, pos, after, none⟩ :: rest) a w := by
  subst hw; subst hg
  refine wpList_store_mid rfl ty x y rfl _ 0 l'.toArray hx hy (by simpa using (At.new w0 T l).there _ (by omega)) (by simpa using hi) (by simpa using h1) ?_
  rw [show l'.toArray.toList = l' from rfl, setCells_top, setFrom_all l l' hl]
  exact h
/-- The load. -/
theorem wpList_load_at (p : Nat) (T : TypeId) (l : List Value) (d : TypeDesc) (hx : a.eval x = .pointer (some ⟨p, 0, none⟩)) (hA : At w p T l) (hu : P.underlying ty = some d) (hd : d.isRow = true)
    (hi : (P.info? ty).map (·.size) = some l.length) (h : wpList P ops Q rest (a.put dst (.agg l.toArray)) w) : wpList P ops Q (⟨dst, .load ty x, t, pos, after, none⟩ :: rest) a w :=
  wpList_load_mid rfl ty x rfl p 0 hx l d hA.rangeAt hu hd hi h
end
theorem At.new_ {w : World} (T : TypeId) (l : List Value) (g : Nat) (hg : g = w.heap.size) : At (w.alloc (.cells l.toArray T)) g T l := by subst hg; exact At.new w T l
section
variable {P : Program} {w : World} {fn : Func} {tmps : Array Value}
theorem results_cell (s : Tmp) (ty : TypeId) (hr : fn.results = #[.cell s ty]) (p : Nat) (T : TypeId) (l : List Value) (d : TypeDesc) (hs : tmps.getD s undef = .pointer (some ⟨p, 0, none⟩)) (hA : At w p T l)
    (hu : P.underlying ty = some d) (hd : d.isRow = true) (hi : (P.info? ty).map (·.size) = some l.length) : (results fn tmps).run P w = .ok (.agg l.toArray) w := by
  have h := run_loadVar_mid (P := P) w p 0 ty l d hA.rangeAt hu hd hi
  rw [Array.getD_eq_getD_getElem?] at hs
  simp [results, hr, hs, asAddr, h]
theorem results_cell_tmp (s t : Tmp) (ty : TypeId) (hr : fn.results = #[.cell s ty, .tmp t]) (p : Nat) (T : TypeId) (l : List Value) (d : TypeDesc) (v : Value) (hs : tmps.getD s undef = .pointer (some ⟨p, 0, none⟩)) (ht : tmps.getD t undef = v) (hA : At w p T l)
    (hu : P.underlying ty = some d) (hd : d.isRow = true) (hi : (P.info? ty).map (·.size) = some l.length) : (results fn tmps).run P w = .ok (.tuple #[.agg l.toArray, v]) w := by
  have h := run_loadVar_mid (P := P) w p 0 ty l d hA.rangeAt hu hd hi
  rw [Array.getD_eq_getD_getElem?] at hs ht
  simp [results, hr, hs, ht, asAddr, h]
theorem results_cell_tmp2 (s t t' : Tmp) (ty : TypeId) (hr : fn.results = #[.cell s ty, .tmp t, .tmp t']) (p : Nat) (T : TypeId) (l : List Value) (d : TypeDesc) (v v' : Value) (hs : tmps.getD s undef = .pointer (some ⟨p, 0, none⟩)) (ht : tmps.getD t undef = v) (ht' : tmps.getD t' undef = v') (hA : At w p T l)
    (hu : P.underlying ty = some d) (hd : d.isRow = true) (hi : (P.info? ty).map (·.size) = some l.length) : (results fn tmps).run P w = .ok (.tuple #[.agg l.toArray, v, v']) w := by
  have h := run_loadVar_mid (P := P) w p 0 ty l d hA.rangeAt hu hd hi
  rw [Array.getD_eq_getD_getElem?] at hs ht ht'
  simp [results, hr, hs, ht, ht', asAddr, h]
end
end
section
set_option linter.unusedVariables false
set_option linter.unusedSimpArgs false
open Go.RowKit
/-- Eight bytes, zeros where they lack. -/
def cid8 (bs : List Int) : List Int := [bs.getD 0 0, bs.getD 1 0, bs.getD 2 0, bs.getD 3 0, bs.getD 4 0, bs.getD 5 0, bs.getD 6 0, bs.getD 7 0]
theorem takeR8 (s : St) : (takeR s 8).length = 8 ∨ takeR s 8 = [] := by
  unfold takeR
  split
  · left; simp; omega
  · right; rfl
theorem cid8_full (bs : List Int) (h : bs.length = 8) : cid8 bs = bs := by
  match bs, h with
  | [a, b, c, d, e, f, g, i], _ => rfl
def CidPost (w : World) (p : Nat) (T : TypeId) (P : Nat → Prop) (s : St) (e : Ending) (w' : World) : Prop :=
  e = .returned (.agg ((cid8 (takeR s 8)).map (Value.int .u8)).toArray) ∧ Rdr w' p T P (takeN s 8) ∧ Kept (· = p) w w'
theorem Kept.of_belowB {B : Nat} {w w' : World} (h : Below B w w') : Kept (fun j => B ≤ j) w w' := ⟨h.os, h.tape, h.output, h.size, fun j _ hn => h.block j (by omega)⟩
theorem Rdr.mono {w : World} {p : Nat} {T : TypeId} {P P' : Nat → Prop} {s : St} (h : Rdr w p T P s) (hp : ∀ b, b < w.heap.size → P b → P' b) : Rdr w p T P' s := by
  obtain ⟨A, n, c, h1, h2, h3, h4, h5, h6⟩ := h
  exact ⟨A, n, c, h1, h2, h3, h4, h5.mono hp, h6⟩
theorem cid_info : (Try.prog.info? 27).map (·.size) = some 8 := by kernel_rfl
end
section
set_option linter.unusedVariables false
open Go.RowKit
/-- A slice's place. -/
structure Sl where
  A : Option Addr
  n : Nat
  c : Nat
def Sl.nil : Sl := ⟨none, 0, 0⟩
def FrPost (v : Value) (w : World) (e : Ending) (w' : World) : Prop := e = .returned v ∧ Below w.heap.size w w'
structure InD (w : World) (P : Nat → Prop) (d : Sl) (ds : List Int) : Prop where
  rd : RdP w P d.A d.n ds
  lc : d.n ≤ d.c
  cm : d.c ≤ maxLen
  nil : d.A = none → d.c = 0
section
variable {S P P' : Nat → Prop} {w w' : World} {d : Sl} {ds : List Int}
theorem InD.kept (h : InD w P d ds) (k : Kept S w w') (hs : ∀ b, P b → ¬ S b) : InD w' P d ds := ⟨h.rd.kept k hs, h.lc, h.cm, h.nil⟩
theorem InD.nil_ (w : World) (P : Nat → Prop) : InD w P .nil [] := ⟨RdP.none_ _ _ _, Nat.le_refl _, by unfold maxLen; exact Nat.zero_le _, fun _ => rfl⟩
theorem InD.mono (h : InD w P d ds) (hp : ∀ b, b < w.heap.size → P b → P' b) : InD w P' d ds := ⟨h.rd.mono hp, h.lc, h.cm, h.nil⟩
end
theorem belowN {B : Nat} {a w : World} (h : Below B a w) (n : Nat) : Below B a (w.drewN n) := ⟨h.os, h.tape, h.output, h.size, h.block⟩
end
section
set_option linter.unusedVariables false
open Go.RowKit
theorem step_items (W : World) (e : TypeId) (k : IntKind) (hp : Try.prog.plainKey e = true) (hu : Try.prog.underlying e = some (.int k)) (d c : Nat) (xs ys : Array Value) (i : Nat) (is : List Nat) (a b : Int) (hx : xs[i * c]? = some (.int k a)) (hy : ys[i * c]? = some (.int k b)) :
    (Op.eqItems (d + 1) e c xs ys (i :: is)).run Try.prog W = if a == b then (Op.eqItems (d + 1) e c xs ys is).run Try.prog W else .ok false W := by
  simp only [Op.eqItems, Sem.run_bind, run_part_plain W hp hx, run_part_plain W hp hy, run_equalIn_int W d e k k a b hu, Result.andThen_ok]
  cases (a == b) <;> simp
end
section
set_option linter.unusedVariables false
open Go.RowKit
/-- A row of bytes that came in: what the walk needs of it. -/
def InRow (w : World) (A : Option Addr) (n c : Nat) (bs : List Int) : Prop := Rd w w.heap.size A n bs ∧ n ≤ c ∧ c ≤ maxLen ∧ (A = none → c = 0)
theorem cell_lt {w : World} {b off : Nat} {v : Value} (h : w.cell? ⟨b, off, none⟩ = some v) : b < w.heap.size := by
  rcases Nat.lt_or_ge b w.heap.size with hlt | hge
  · exact hlt
  · have e : w.heap[b]? = none := Array.getElem?_eq_none hge
    simp [World.cell?, e] at h
theorem inRow_nil (w : World) (n c : Nat) (hn : n = 0) (hc : c = 0) : InRow w none n c [] := by
  subst hn; subst hc
  exact ⟨Rd.none_ _ _ _, Nat.le_refl _, by unfold maxLen; omega, fun _ => rfl⟩
theorem inRow_some {w : World} {x : Addr} {len cap : Nat} {zs : List Int} (hl : len ≤ cap) (hm : cap ≤ maxLen) (hz : zs.length = cap)
    (hcell : ∀ i, i < zs.length → w.cell? (x.add i) = some (.int .u8 (zs.getD i 0))) (hw : ∀ n ∈ zs, (Lit.int .u8 n).wf = true) : InRow w (some x) len cap (zs.take len) := by
  refine ⟨⟨by rw [List.length_take]; omega, fun y hy => ?_, fun hp => ?_⟩, hl, hm, fun h => by cases h⟩
  · have := bounds_u8 (hw y (List.mem_of_mem_take hy))
    omega
  · obtain ⟨b, off, spot⟩ := x
    have h0 := hcell 0 (by omega)
    have hs : spot = none := by simpa [Addr.add] using World.cell?_spot h0
    subst hs
    have h1 := hcell 0 (by omega)
    rw [addr_add] at h1
    refine ⟨b, off, rfl, cell_lt h1, fun i hi => ?_⟩
    have h2 := hcell i (by omega)
    rw [addr_add] at h2
    rw [h2, List.getD_eq_getElem?_getD, List.getD_eq_getElem?_getD, List.getElem?_take_of_lt hi]
end
section
set_option linter.unusedVariables false
open Go.RowKit Go.ChangeShapes Go.WideShapes Go.Deep
section
variable {H : Type} {enc : TypeId × Value → H} {P : Program} {w : World}
/-- What a reading of a row of bytes says in the words of the walks. -/
theorem inRow_of_trod {t e : TypeId} {fuel : Nat} {cs : List Value} {x : DataW H × List MemPlace} (ht : P.underlying t = some (.slice e)) (he : P.underlying e = some (.int .u8)) (hc : P.cellsOf e = 1)
    (h : DataW.trod enc P w 0 (fun _ => true) true fuel t cs = some x) : ∃ A len cap bs, cs = [.slice A len cap] ∧ InRow w A len cap bs := by
  rcases open_ints ht he hc h with ⟨hcs, _⟩ | ⟨x, l, c, zs, hcs, _, hl, hm, hz, _, hcell, hwz⟩
  · exact ⟨none, 0, 0, [], hcs, inRow_nil w 0 0 rfl rfl⟩
  · exact ⟨_, _, _, _, hcs, inRow_some hl hm (by simpa using hz) hcell hwz⟩
end
end
section
set_option linter.unusedVariables false
open Go.RowKit Go.ChangeShapes Go.WideShapes Go.Deep
/-- Eight bytes. -/
structure N8 where
  a0 : Int
  a1 : Int
  a2 : Int
  a3 : Int
  a4 : Int
  a5 : Int
  a6 : Int
  a7 : Int
def N8.l (m : N8) : List Int := [m.a0, m.a1, m.a2, m.a3, m.a4, m.a5, m.a6, m.a7]
def N8.zero : N8 := ⟨0, 0, 0, 0, 0, 0, 0, 0⟩
def N8.of (l : List Int) : N8 := ⟨l.getD 0 0, l.getD 1 0, l.getD 2 0, l.getD 3 0, l.getD 4 0, l.getD 5 0, l.getD 6 0, l.getD 7 0⟩
def N8.v (m : N8) : Value := .agg #[.int .u8 m.a0, .int .u8 m.a1, .int .u8 m.a2, .int .u8 m.a3, .int .u8 m.a4, .int .u8 m.a5, .int .u8 m.a6, .int .u8 m.a7]
theorem N8.ext_ {x y : N8} (h : x.l = y.l) : x = y := by
  obtain ⟨a, b, c, d, e, f, g, i⟩ := x
  obtain ⟨a', b', c', d', e', f', g', i'⟩ := y
  simp only [N8.l, List.cons.injEq] at h
  obtain ⟨rfl, rfl, rfl, rfl, rfl, rfl, rfl, rfl, _⟩ := h
  rfl
theorem N8.of_l (m : N8) : N8.of m.l = m := rfl
theorem N8.l_of (l : List Int) (h : l.length = 8) : (N8.of l).l = l := by
  match l, h with
  | [a, b, c, d, e, f, g, i], _ => rfl
def n8B (m m' : N8) : Bool := m.a0 == m'.a0 && (m.a1 == m'.a1 && (m.a2 == m'.a2 && (m.a3 == m'.a3 && (m.a4 == m'.a4 && (m.a5 == m'.a5 && (m.a6 == m'.a6 && m.a7 == m'.a7))))))
theorem n8B_eq (m m' : N8) : n8B m m' = true ↔ m = m' := by
  obtain ⟨a, b, c, d, e, f, g, i⟩ := m
  obtain ⟨a', b', c', d', e', f', g', i'⟩ := m'
  simp [n8B]
theorem n8B_refl (m : N8) : n8B m m = true := (n8B_eq m m).2 rfl
theorem run_n8 (W : World) (m m' : N8) : (Op.equalIn 10000 27 m.v m'.v).run Try.prog W = .ok (n8B m m') W := by
  have hp : Try.prog.plainKey 5 = true := by kernel_rfl
  have hu : Try.prog.underlying 5 = some (.int .u8) := Try.underlying5
  have hc : Try.prog.cellsOf 5 = 1 := by kernel_rfl
  obtain ⟨i, hi⟩ : ∃ i, Try.prog.info? 5 = some i := by
    cases h : Try.prog.info? 5 with
    | some i => exact ⟨i, rfl⟩
    | none => exact absurd (show (Try.prog.info? 5).isSome = true by kernel_rfl) (by rw [h]; simp)
  unfold N8.v
  rw [show (10000 : Nat) = 9999 + 1 from rfl, run_equalIn_array W 9999 _ _ (n := 8) Try.underlying27 hi, hc, show (9999 : Nat) = 9998 + 1 from rfl]
  rw [show List.range 8 = [0, 1, 2, 3, 4, 5, 6, 7] from rfl]
  unfold n8B
  rw [step_items W _ .u8 hp hu 9998 1 _ _ 0 _ m.a0 m'.a0 rfl rfl]
  cases (m.a0 == m'.a0) <;> simp only [Bool.false_and, Bool.true_and, if_true, Bool.false_eq_true, if_false]
  rw [step_items W _ .u8 hp hu 9998 1 _ _ 1 _ m.a1 m'.a1 rfl rfl]
  cases (m.a1 == m'.a1) <;> simp only [Bool.false_and, Bool.true_and, if_true, Bool.false_eq_true, if_false]
  rw [step_items W _ .u8 hp hu 9998 1 _ _ 2 _ m.a2 m'.a2 rfl rfl]
  cases (m.a2 == m'.a2) <;> simp only [Bool.false_and, Bool.true_and, if_true, Bool.false_eq_true, if_false]
  rw [step_items W _ .u8 hp hu 9998 1 _ _ 3 _ m.a3 m'.a3 rfl rfl]
  cases (m.a3 == m'.a3) <;> simp only [Bool.false_and, Bool.true_and, if_true, Bool.false_eq_true, if_false]
  rw [step_items W _ .u8 hp hu 9998 1 _ _ 4 _ m.a4 m'.a4 rfl rfl]
  cases (m.a4 == m'.a4) <;> simp only [Bool.false_and, Bool.true_and, if_true, Bool.false_eq_true, if_false]
  rw [step_items W _ .u8 hp hu 9998 1 _ _ 5 _ m.a5 m'.a5 rfl rfl]
  cases (m.a5 == m'.a5) <;> simp only [Bool.false_and, Bool.true_and, if_true, Bool.false_eq_true, if_false]
  rw [step_items W _ .u8 hp hu 9998 1 _ _ 6 _ m.a6 m'.a6 rfl rfl]
  cases (m.a6 == m'.a6) <;> simp only [Bool.false_and, Bool.true_and, if_true, Bool.false_eq_true, if_false]
  rw [step_items W _ .u8 hp hu 9998 1 _ _ 7 _ m.a7 m'.a7 rfl rfl]
  cases (m.a7 == m'.a7) <;> simp [Op.eqItems]
instance : DecidableEq N8 := fun x y => if h : x.l = y.l then isTrue (N8.ext_ h) else isFalse (fun e => h (by rw [e]))
theorem N8.v_l (m : N8) : m.v = .agg (m.l.map (Value.int .u8)).toArray := rfl
section
variable {P : Program} {ops : Array Oper} {rest : List Oper} {a : Act} {w : World} {Q : Exit → Act → World → Prop} {dst : Option Tmp} {x y : Operand} {ty t : TypeId} {pos : String} {after : Array Edge}
/-- The store of some cells within a block. -/
theorem wpList_store_sub (p o : Nat) (T : TypeId) (l l' vs : List Value) (hx : a.eval x = .pointer (some ⟨p, o, none⟩)) (hy : a.eval y = .agg vs.toArray) (hA : At w p T l) (hl : o + vs.length ≤ l.length)
    (hi : (P.info? ty).map (·.size) = some vs.length) (h1 : vs.all (·.oneCell') = true) (hres : setFrom l o vs = l') (h : ∀ w', At w' p T l' → Kept (· = p) w w' → wpList P ops Q rest (a.put dst undef) w') :
    wpList P ops Q (⟨dst, .store ty x y, t, pos, after, none⟩ :: rest) a w := by
  refine wpList_store_mid rfl ty x y rfl p o vs.toArray hx hy (fun j hj => ?_) (by simpa using hi) (by simpa using h1) ?_
  · simp at hj
    rw [hA.cell, hA.frozen]
    simp
    omega
  · have := At.setFrom vs l o w hA
    rw [hres] at this
    exact h _ (by simpa using this) (by simpa using Kept.setCells (S := (· = p)) rfl vs o w (Kept.refl _ _))
end
section
variable {P : Program} {ops : Array Oper} {rest : List Oper} {a : Act} {w : World} {Q : Exit → Act → World → Prop} {dst : Option Tmp} {x y : Operand} {ty t : TypeId} {pos : String} {after : Array Edge}
end
section
variable {H : Type} {enc : TypeId × Value → H} {w : World}
theorem cid_of_trod {fuel : Nat} {cs : List Value} {x : DataW H × List MemPlace} (h : DataW.trod enc Try.prog w 0 (fun _ => true) true fuel 27 cs = some x) (hl : cs.length = 8) :
    ∃ v : N8, cs = v.l.map (Value.int .u8) ∧ Byt v.l := by
  have c5 : Try.prog.cellsOf 5 = 1 := by kernel_rfl
  obtain ⟨xs, m, _, _, _, hxl, hf⟩ := DataW.trod_array Try.underlying27 h
  rw [c5] at hf
  match cs, hl with
  | [u0, u1, u2, u3, u4, u5, u6, u7], _ =>
    match xs, hxl with
    | [x0, x1, x2, x3, x4, x5, x6, x7], _ =>
      have h0 : DataW.trod enc Try.prog w 0 (fun _ => true) true m 5 [u0] = some x0 := hf 0 (by decide)
      have h1 : DataW.trod enc Try.prog w 0 (fun _ => true) true m 5 [u1] = some x1 := hf 1 (by decide)
      have h2 : DataW.trod enc Try.prog w 0 (fun _ => true) true m 5 [u2] = some x2 := hf 2 (by decide)
      have h3 : DataW.trod enc Try.prog w 0 (fun _ => true) true m 5 [u3] = some x3 := hf 3 (by decide)
      have h4 : DataW.trod enc Try.prog w 0 (fun _ => true) true m 5 [u4] = some x4 := hf 4 (by decide)
      have h5 : DataW.trod enc Try.prog w 0 (fun _ => true) true m 5 [u5] = some x5 := hf 5 (by decide)
      have h6 : DataW.trod enc Try.prog w 0 (fun _ => true) true m 5 [u6] = some x6 := hf 6 (by decide)
      have h7 : DataW.trod enc Try.prog w 0 (fun _ => true) true m 5 [u7] = some x7 := hf 7 (by decide)
      obtain ⟨k0, e0, _, w0⟩ := DataW.trod_int Try.underlying5 h0
      obtain ⟨k1, e1, _, w1⟩ := DataW.trod_int Try.underlying5 h1
      obtain ⟨k2, e2, _, w2⟩ := DataW.trod_int Try.underlying5 h2
      obtain ⟨k3, e3, _, w3⟩ := DataW.trod_int Try.underlying5 h3
      obtain ⟨k4, e4, _, w4⟩ := DataW.trod_int Try.underlying5 h4
      obtain ⟨k5, e5, _, w5⟩ := DataW.trod_int Try.underlying5 h5
      obtain ⟨k6, e6, _, w6⟩ := DataW.trod_int Try.underlying5 h6
      obtain ⟨k7, e7, _, w7⟩ := DataW.trod_int Try.underlying5 h7
      obtain rfl : u0 = .int .u8 k0 := by simpa using e0
      obtain rfl : u1 = .int .u8 k1 := by simpa using e1
      obtain rfl : u2 = .int .u8 k2 := by simpa using e2
      obtain rfl : u3 = .int .u8 k3 := by simpa using e3
      obtain rfl : u4 = .int .u8 k4 := by simpa using e4
      obtain rfl : u5 = .int .u8 k5 := by simpa using e5
      obtain rfl : u6 = .int .u8 k6 := by simpa using e6
      obtain rfl : u7 = .int .u8 k7 := by simpa using e7
      refine ⟨⟨k0, k1, k2, k3, k4, k5, k6, k7⟩, rfl, ?_⟩
      have b0 := bounds_u8 w0
      have b1 := bounds_u8 w1
      have b2 := bounds_u8 w2
      have b3 := bounds_u8 w3
      have b4 := bounds_u8 w4
      have b5 := bounds_u8 w5
      have b6 := bounds_u8 w6
      have b7 := bounds_u8 w7
      intro y hy
      simp only [N8.l, List.mem_cons, List.not_mem_nil, or_false] at hy
      rcases hy with rfl | rfl | rfl | rfl | rfl | rfl | rfl | rfl <;> omega
end
end
end Go.Proofs.Ytehdilgnlhhjdaa
