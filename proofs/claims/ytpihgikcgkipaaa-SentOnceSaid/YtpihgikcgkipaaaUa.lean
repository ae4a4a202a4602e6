/-
  Rows of packets: a packet's five cells; slices of packets of the call's own; append, clear as laws of one operation; frames of a packet (none, or one Ping).
-/
import Derived.Test.YtpihgikcgkipaaaQa
import Derived.Test.YtpihgikcgkipaaaFr
namespace Go.Proofs.Ytpihgikcgkipaaa
set_option linter.unusedVariables false
set_option linter.unusedSimpArgs false
open Go.RowKit
/-- A packet: its numbers, and its frames as a slice's three. -/
structure PK where
  n : Int
  t : Int
  s : Int
  a : Bool
  A : Option Addr
  k : Nat
  c : Nat
abbrev PL := List PK
def pkC (r : PK) : List Value := [.int .u64 r.n, .int .i64 r.t, .int .i64 r.s, .bool r.a, .slice r.A r.k r.c]
def plC (l : PL) : List Value := l.flatMap pkC
/-- What of it is compared. -/
structure PC where
  n : Int
  t : Int
  s : Int
  a : Bool
  k : Nat
deriving DecidableEq
def PK.core (r : PK) : PC := ⟨r.n, r.t, r.s, r.a, r.k⟩
theorem plC_cons (r : PK) (l : PL) : plC (r :: l) = .int .u64 r.n :: .int .i64 r.t :: .int .i64 r.s :: .bool r.a :: .slice r.A r.k r.c :: plC l := by simp [plC, pkC]
theorem plC_len : ∀ l : PL, (plC l).length = l.length * 5
  | [] => rfl
  | r :: t => by rw [plC_cons]; simp only [List.length_cons]; rw [plC_len t]; omega
theorem plC_app (a b : PL) : plC (a ++ b) = plC a ++ plC b := by unfold plC; exact List.flatMap_append
theorem plC_one_ (r : PK) : plC [r] = pkC r := by simp [plC]
theorem plC_get : ∀ (l : PL) (i : Nat) (r : PK), l[i]? = some r → (plC l)[i * 5]? = some (.int .u64 r.n) ∧ (plC l)[i * 5 + 1]? = some (.int .i64 r.t) ∧ (plC l)[i * 5 + 2]? = some (.int .i64 r.s) ∧ (plC l)[i * 5 + 3]? = some (.bool r.a) ∧ (plC l)[i * 5 + 4]? = some (.slice r.A r.k r.c)
  | [], i, r, h => by simp at h
  | x :: t, 0, r, h => by
    simp at h
    subst h
    exact ⟨rfl, rfl, rfl, rfl, rfl⟩
  | x :: t, i + 1, r, h => by
    have := plC_get t i r (by simpa using h)
    rw [plC_cons, show (i + 1) * 5 = i * 5 + 1 + 1 + 1 + 1 + 1 by omega]
    simpa using this
theorem plC_one (l : PL) : ∀ u ∈ plC l, u.oneCell' = true := fun u hu => by
  unfold plC at hu
  rw [List.mem_flatMap] at hu
  obtain ⟨r, _, h⟩ := hu
  simp [pkC] at h
  rcases h with rfl | rfl | rfl | rfl | rfl <;> rfl
theorem plC_take : ∀ (l : PL) (k : Nat), plC (l.take k) = (plC l).take (k * 5)
  | [], k => by simp [plC]
  | r :: t, 0 => by simp [plC]
  | r :: t, k + 1 => by
    rw [List.take_succ_cons, plC_cons, plC_cons, plC_take t k, show (k + 1) * 5 = k * 5 + 1 + 1 + 1 + 1 + 1 by omega]
    simp only [List.take_succ_cons]
theorem plC_drop : ∀ (l : PL) (k : Nat), plC (l.drop k) = (plC l).drop (k * 5)
  | [], k => by simp [plC]
  | r :: t, 0 => by simp
  | r :: t, k + 1 => by
    rw [List.drop_succ_cons, plC_cons, plC_drop t k, show (k + 1) * 5 = k * 5 + 1 + 1 + 1 + 1 + 1 by omega]
    simp only [List.drop_succ_cons]
/-- A slice of packets that the call made itself (no block below base). -/
abbrev OwnG (w : World) (base : Nat) (v : Value) (n : Nat) (xs : List Value) : Prop := w.ownsRow base 31 5 v n xs
abbrev OwnP (w : World) (base : Nat) (v : Value) (l : PL) : Prop := OwnG w base v l.length (plC l)
section
variable {w w' : World} {base : Nat} {v : Value} {n : Nat} {xs : List Value} {l : PL}
theorem ownG_open (h : OwnG w base v n xs) : ∃ A c, v = .slice A n c ∧ n ≤ c ∧ c ≤ maxLen ∧ xs.length = n * 5 ∧
    ((A = none ∧ n = 0 ∧ c = 0 ∧ xs = []) ∨ ∃ g cur, A = some ⟨g, 0, none⟩ ∧ base ≤ g ∧ g < w.heap.size ∧ At w g 31 cur ∧ cur.length = c * 5 ∧ cur.take (n * 5) = xs) := by
  rcases h.2 with ⟨rfl, rfl⟩ | ⟨g, cap, cur, rfl, hb, hg, hn, hm, hs, ht⟩
  · exact ⟨none, 0, rfl, Nat.le_refl _, by unfold maxLen; omega, h.1, .inl ⟨rfl, rfl, rfl, List.eq_nil_of_length_eq_zero (by simpa using h.1)⟩⟩
  · have hA : At w g 31 cur.toList := hg
    exact ⟨_, cap, rfl, hn, hm, h.1, .inr ⟨g, cur.toList, rfl, hb, hA.lt, hA, by simpa using hs, ht⟩⟩
theorem ownG_mk {g c : Nat} {cur : List Value} (hx : xs.length = n * 5) (hb : base ≤ g) (hA : At w g 31 cur) (hn : n ≤ c) (hc : c ≤ maxLen) (hl : cur.length = c * 5) (ht : cur.take (n * 5) = xs) : OwnG w base (.slice (some ⟨g, 0, none⟩) n c) n xs :=
  ⟨hx, .inr ⟨g, c, cur.toArray, rfl, hb, hA, hn, hc, by simpa using hl, by simpa using ht⟩⟩
theorem ownG_lt (h : OwnG w base v n xs) : ∀ k, v.ownBlock = some k → base ≤ k ∧ k < w.heap.size := by
  obtain ⟨A, c, rfl, _, _, _, h⟩ := ownG_open h
  intro k hk
  rcases h with ⟨rfl, _⟩ | ⟨g, cur, rfl, hb, hlt, _⟩
  · cases hk
  · injection hk with hk
    subst hk
    exact ⟨hb, hlt⟩
theorem ownG_keep (h : OwnG w base v n xs) (hk : ∀ k, v.ownBlock = some k → w'.heap[k]? = w.heap[k]?) : OwnG w' base v n xs := by
  refine ⟨h.1, ?_⟩
  rcases h.2 with h0 | ⟨g, cap, cur, rfl, hb, hg, hr⟩
  · exact .inl h0
  · exact .inr ⟨g, cap, cur, rfl, hb, (hk g rfl).trans hg, hr⟩
theorem ownG_kept {S : Nat → Prop} (h : OwnG w base v n xs) (k : Kept S w w') (hs : ∀ j, v.ownBlock = some j → ¬ S j) : OwnG w' base v n xs := ownG_keep h fun j hj => k.block j (ownG_lt h j hj).2 (hs j hj)
theorem ownG_below (h : OwnG w base v n xs) (k : Below w.heap.size w w') : OwnG w' base v n xs := ownG_kept h (Kept.of_below k (fun _ => False)) (fun _ _ h => h)
theorem ownG_base {base' : Nat} (h : OwnG w base v n xs) (hb : base' ≤ base) : OwnG w base' v n xs := by
  refine ⟨h.1, ?_⟩
  rcases h.2 with h0 | ⟨g, cap, cur, e, hb', hr⟩
  · exact .inl h0
  · exact .inr ⟨g, cap, cur, e, Nat.le_trans hb hb', hr⟩
/-- Its block is a row of packets. -/
theorem ownG_type (h : OwnG w base v n xs) : ∀ k, v.ownBlock = some k → ∃ cur, At w k 31 cur := by
  obtain ⟨A, c, rfl, _, _, _, h⟩ := ownG_open h
  intro k hk
  rcases h with ⟨rfl, _⟩ | ⟨g, cur, rfl, hb, hlt, hA, _⟩
  · cases hk
  · injection hk with hk
    subst hk
    exact ⟨_, hA⟩
theorem ownG_shape (h : OwnG w base v n xs) : ∃ A c, v = .slice A n c ∧ n ≤ c ∧ c ≤ maxLen := by
  obtain ⟨A, c, e, h1, h2, _⟩ := ownG_open h
  exact ⟨A, c, e, h1, h2⟩
theorem ownP_nil (w : World) (base : Nat) : OwnP w base (.slice none 0 0) [] := ⟨rfl, .inl ⟨rfl, rfl⟩⟩
theorem ownG_flat (h : OwnG w base v n xs) (j : Nat) (u : Value) (hj : xs[j]? = some u) : ∃ g c, v = .slice (some ⟨g, 0, none⟩) n c ∧ w.cell? ⟨g, j, none⟩ = some u := by
  obtain ⟨A, c, rfl, h1, h2, h3, h4⟩ := ownG_open h
  have hlt := (List.getElem?_eq_some_iff.1 hj).1
  rcases h4 with ⟨rfl, h0, _⟩ | ⟨g, cur, rfl, hb, hg, hA, hl, ht⟩
  · omega
  · refine ⟨g, c, rfl, ?_⟩
    rw [hA.cell]
    rw [← ht, List.getElem?_take] at hj
    split at hj
    · exact hj
    · cases hj
end
/-- The cells of the i-th packet stand at a block from an offset on. -/
structure PkAt (w : World) (b o : Nat) (r : PK) : Prop where
  cn : w.cell? ⟨b, o, none⟩ = some (.int .u64 r.n)
  ct : w.cell? ⟨b, o + 1, none⟩ = some (.int .i64 r.t)
  cs : w.cell? ⟨b, o + 2, none⟩ = some (.int .i64 r.s)
  ca : w.cell? ⟨b, o + 3, none⟩ = some (.bool r.a)
  cf : w.cell? ⟨b, o + 4, none⟩ = some (.slice r.A r.k r.c)
/-- A slice of packets that can be read. -/
def InP (w : World) (A : Option Addr) (n : Nat) (l : PL) : Prop :=
  l.length = n ∧ (0 < n → ∃ b off, A = some ⟨b, off, none⟩ ∧ b < w.heap.size ∧ ∀ i r, l[i]? = some r → PkAt w b (off + i * 5) r)
section
variable {w w' : World} {base : Nat} {v : Value} {n : Nat} {A : Option Addr} {l : PL}
theorem PkAt.below {b o : Nat} {r : PK} (h : PkAt w b o r) (hb : b < w.heap.size) (k : Below w.heap.size w w') : PkAt w' b o r :=
  ⟨(k.cell (p := ⟨b, _, none⟩) hb).trans h.cn, (k.cell (p := ⟨b, _, none⟩) hb).trans h.ct, (k.cell (p := ⟨b, _, none⟩) hb).trans h.cs, (k.cell (p := ⟨b, _, none⟩) hb).trans h.ca, (k.cell (p := ⟨b, _, none⟩) hb).trans h.cf⟩
theorem InP.below (h : InP w A n l) (k : Below w.heap.size w w') : InP w' A n l := ⟨h.1, fun hn => by
  obtain ⟨b, off, e, hb, hc⟩ := h.2 hn
  exact ⟨b, off, e, Nat.lt_of_lt_of_le hb k.size, fun i r hi => (hc i r hi).below hb k⟩⟩
theorem At.pk {p : Nat} {T : TypeId} {r : PK} (h : At w p T (pkC r)) : PkAt w p 0 r := ⟨h.cell 0, h.cell 1, h.cell 2, h.cell 3, h.cell 4⟩
theorem ownP_open (h : OwnP w base v l) : ∃ A c, v = .slice A l.length c ∧ l.length ≤ c ∧ c ≤ maxLen ∧ InP w A l.length l := by
  obtain ⟨A, c, e, h1, h2, h3, h4⟩ := ownG_open h
  refine ⟨A, c, e, h1, h2, rfl, fun hn => ?_⟩
  rcases h4 with ⟨_, h0, _⟩ | ⟨g, cur, rfl, hb, hlt, hA, hl, ht⟩
  · omega
  · refine ⟨g, 0, rfl, hlt, fun i r hi => ?_⟩
    have cell : ∀ j u, (plC l)[j]? = some u → w.cell? ⟨g, j, none⟩ = some u := fun j u hj => by
      rw [hA.cell]
      rw [← ht, List.getElem?_take] at hj
      split at hj
      · exact hj
      · cases hj
    have hc := plC_get l i r hi
    rw [Nat.zero_add]
    exact ⟨cell _ _ hc.1, cell _ _ hc.2.1, cell _ _ hc.2.2.1, cell _ _ hc.2.2.2.1, cell _ _ hc.2.2.2.2⟩
/-- The cells of a packet, one by one. -/
theorem ownP_at (h : OwnP w base v l) {i : Nat} {r : PK} (hi : l[i]? = some r) : ∃ g c, v = .slice (some ⟨g, 0, none⟩) l.length c ∧ base ≤ g ∧ g < w.heap.size ∧ PkAt w g (i * 5) r := by
  have hlt := (List.getElem?_eq_some_iff.1 hi).1
  obtain ⟨A, c, rfl, _, _, hin⟩ := ownP_open h
  obtain ⟨b, off, rfl, hb, hc⟩ := hin.2 (by omega)
  have hb2 := ownG_lt h
  rcases h.2 with ⟨h0, _⟩ | ⟨g, cap, cur, hv, hbg, _⟩
  · cases h0
  · injection hv with e1 e2 e3
    injection e1 with e1
    injection e1 with e1 e4
    subst e1; subst e4
    refine ⟨b, c, rfl, hbg, hb, ?_⟩
    have := hc i r hi
    rwa [Nat.zero_add] at this
end
theorem At.type_eq {w : World} {p : Nat} {T T' : TypeId} {l l' : List Value} (h : At w p T l) (h' : At w p T' l') : T = T' := by
  unfold At at *
  rw [h] at h'
  injection h' with h'
  injection h'
theorem pk_info : (Try.prog.info? 31).map (fun i => (i.zero, i.size, i.bytes)) = some (some (.agg #[.int .u64 0, .int .i64 0, .int .i64 0, .bool false, .slice none 0 0]), 5, 56) := by kernel_rfl
theorem pk_parts : ∃ i, Try.prog.info? 31 = some i ∧ i.zero = some (.agg #[.int .u64 0, .int .i64 0, .int .i64 0, .bool false, .slice none 0 0]) ∧ i.size = 5 ∧ i.bytes = 56 := by
  have hI := pk_info
  cases hq : Try.prog.info? 31 with
  | none => rw [hq] at hI; cases hI
  | some i =>
    rw [hq] at hI
    simp only [Option.map_some, Option.some.injEq, Prod.mk.injEq] at hI
    exact ⟨i, rfl, hI⟩
theorem pf_info : (Try.prog.info? 68).map (fun i => (i.zero, i.size, i.bytes)) = some (some (.agg (frL (FN.zero 0) .nil .nil).toArray), 19, 128) := by kernel_rfl
theorem pf_parts : ∃ i, Try.prog.info? 68 = some i ∧ i.zero = some (.agg (frL (FN.zero 0) .nil .nil).toArray) ∧ i.size = 19 ∧ i.bytes = 128 := by
  have hI := pf_info
  cases hq : Try.prog.info? 68 with
  | none => rw [hq] at hI; cases hI
  | some i =>
    rw [hq] at hI
    simp only [Option.map_some, Option.some.injEq, Prod.mk.injEq] at hI
    exact ⟨i, rfl, hI⟩
section
variable {w : World} {ops : Array Oper} {rest : List Oper} {o : Oper} {a : Act} {Q : Exit → Act → World → Prop}
theorem pzero (n : Nat) : ∃ zs : List Value, (Builtin.zeroCells (Value.agg #[.int .u64 0, .int .i64 0, .int .i64 0, .bool false, .slice none 0 0]).cells n).toList = zs ∧ zs.length = n * 5 ∧ ∀ v ∈ zs, v.oneCell' = true := by
  refine ⟨_, rfl, by simp [Builtin.zeroCells, Value.cells], ?_⟩
  intro v hv
  simp [Builtin.zeroCells, Value.cells] at hv
  obtain ⟨j, hj, rfl⟩ := hv
  have h5 : j % 5 = 0 ∨ j % 5 = 1 ∨ j % 5 = 2 ∨ j % 5 = 3 ∨ j % 5 = 4 := by omega
  rcases h5 with h | h | h | h | h <;> simp [h] <;> rfl
set_option maxRecDepth 100000 in
theorem run_clearP (w : World) (ty : TypeId) (A : Option Addr) (n c g off : Nat) (cur : List Value) (T : TypeId) (hA : At w g T cur) (hd : 0 < n → A = some ⟨g, off, none⟩) (hfit : off + n * 5 ≤ cur.length) :
    ∃ w' zs, (Builtin.clear_ #[25] ty #[.slice A n c]).run Try.prog w = .ok (.tuple #[]) w' ∧ zs.length = n * 5 ∧ At w' g T (splice cur off zs) ∧ Kept (· = g) w w' := by
  obtain ⟨i, hi, hz, hsz, hby⟩ := pk_parts
  have hu := Try.underlying25
  obtain ⟨zs, hzs, hzl, hz1⟩ := pzero n
  by_cases h0 : n = 0
  · subst h0
    obtain rfl : zs = [] := List.eq_nil_of_length_eq_zero (by simpa using hzl)
    refine ⟨w, [], ?_, rfl, by rw [splice_nil]; exact hA, Kept.refl _ _⟩
    cases A <;> simp [Builtin.clear_, run_underlying hu, zeroValue, typeInfo, hi, hz, storeCells, Builtin.zeroCells]
  · obtain rfl := hd (by omega)
    have hst := run_storeCells_at Try.prog g off T zs 0 cur.toArray w hA (by simpa [hzl] using hfit) hz1
    refine ⟨w.setRow g (splice cur off zs).toArray, zs, ?_, hzl, setRow_heap w g _ _ T _ hA, ⟨rfl, rfl, rfl, by simp [World.setRow], fun k hk hne => setRow_other w g k _ hne⟩⟩
    simp only [Nat.add_zero, List.append_assoc] at hst
    obtain ⟨m, rfl⟩ : ∃ m, n = m + 1 := ⟨n - 1, by omega⟩
    simp [Builtin.clear_, run_underlying hu, zeroValue, typeInfo, hi, hz, hzs, hst, splice]
theorem wpList_clearP (hgd : o.guard = none) (d : Operand) (hop : o.op = Op.call { callee := Callee.builtin Builtin.clear, args := #[d], argTypes := #[25] })
    (A : Option Addr) (n c g off : Nat) (cur : List Value) (T : TypeId) (hd : a.eval d = .slice A n c) (hA : At w g T cur) (hdp : 0 < n → A = some ⟨g, off, none⟩) (hfit : off + n * 5 ≤ cur.length)
    (h : ∀ w' zs, zs.length = n * 5 → At w' g T (splice cur off zs) → Kept (· = g) w w' → wpList Try.prog ops Q rest (a.put o.dst (.tuple #[])) w') : wpList Try.prog ops Q (o :: rest) a w := by
  obtain ⟨w', zs, hr, h1, h2, h3⟩ := run_clearP w o.type A n c g off cur T hA hdp hfit
  refine wpList_plain hgd fun K hK => ?_
  unfold Oper.wp
  simp [execOp, hop, resolve, invoke, builtin, hd, hr, Result.andThen]
  exact hK _ _ (h w' zs h1 h2 h3)
set_option maxRecDepth 100000 in
/-- append of packets that stand anywhere. -/
theorem run_appendP (w : World) (ty : TypeId) (base : Nat) (v : Value) (n : Nat) (xs : List Value) (hown : OwnG w base v n xs) (A : Option Addr) (m c : Nat) (news : List Value) (hl : news.length = m * 5)
    (hnews : 0 < m → ∃ ad, A = some ad ∧ ∀ j u, news[j]? = some u → w.cell? (ad.add j) = some u) (h1 : ∀ u ∈ news, u.oneCell' = true) (hN : n + m ≤ 1000000) (hbase : base ≤ w.heap.size) :
    ∃ v' w', (Builtin.append_ #[25, 25] ty #[v, .slice A m c]).run Try.prog w = .ok v' w' ∧ OwnG w' base v' (n + m) (xs ++ news) ∧ w.grownBy w' v.ownBlock ∧ (v'.ownBlock = v.ownBlock ∨ v'.ownBlock = some w.heap.size) ∧
      (∀ g c, v = .slice (some ⟨g, 0, none⟩) n c → n + m ≤ c → v' = .slice (some ⟨g, 0, none⟩) (n + m) c) := by
  obtain ⟨i, hi, hz, hsz, hby⟩ := pk_parts
  have hu := Try.underlying25
  by_cases h0 : m = 0
  · subst h0
    obtain rfl : news = [] := List.eq_nil_of_length_eq_zero (by simpa using hl)
    obtain ⟨A', c', rfl, hn, hc, hx, ho⟩ := ownG_open hown
    refine ⟨_, w, ?_, by rw [List.append_nil]; exact hown, ⟨rfl, rfl, rfl, Nat.le_refl _, fun _ _ _ => rfl⟩, .inl rfl, fun g c e _ => e⟩
    cases A <;> cases A' <;> simp [Builtin.append_, run_underlying hu, sizeOf, typeInfo, hi, hsz, Builtin.lenOf, Builtin.firstCells, loadCells, loadCellsFrom, hn, storeCells]
  · obtain ⟨ad, rfl, hc⟩ := hnews (by omega)
    obtain ⟨v', w', k1, k2, k3, _, k5⟩ := run_append_own_at (P := Try.prog) (w := w) base 25 ty 31 i _ 5 56 hu hi hz hsz hby rfl (by omega) v n xs hown ad m c news hl hc h1 (by unfold maxLen; omega) (by omega) hbase
    refine ⟨v', w', k1, k2, k3, k5, ?_⟩
    rintro g c' rfl hfit
    have hl2 := run_loadCells_list (P := Try.prog) w ad news hc
    rcases hown.2 with ⟨h0, _⟩ | ⟨g1, cap, cur, hv, hbg, hg, hnc, hcm, hcs, htake⟩
    · cases h0
    · injection hv with e1 e2 e3
      injection e1 with e1
      injection e1 with e1
      subst e1; subst e3
      have hst := run_storeCells_at Try.prog g (n * 5) _ news 0 cur w hg (by rw [hcs, hl]; omega) h1
      have had : (⟨g, 0, none⟩ : Addr).add (n * 5) = ⟨g, n * 5, none⟩ := by rw [Addr.add_lit, Nat.zero_add]
      have hl' : m * 5 = news.length := hl.symm
      have hrun : (Builtin.append_ #[25, 25] ty #[.slice (some ⟨g, 0, none⟩) n c', .slice (some ad) m c]).run Try.prog w = .ok (.slice (some ⟨g, 0, none⟩) (n + m) c') (w.setRow g (cur.toList.take (n * 5 + 0) ++ news ++ cur.toList.drop (n * 5 + 0 + news.length)).toArray) := by
        simp [Builtin.append_, run_underlying hu, sizeOf, typeInfo, hi, hsz, Builtin.lenOf, Builtin.firstCells, hfit, hl', hl2, had, hst]
      rw [hrun] at k1
      injection k1 with k1 _
      exact k1.symm
theorem wpList_appendP (hgd : o.guard = none) (s x : Operand) (ho : o.op = .call { callee := .builtin .append, args := #[s, x], argTypes := #[25, 25] }) (base : Nat) (v : Value) (n : Nat) (xs : List Value) (hs : a.eval s = v) (hown : OwnG w base v n xs)
    (A : Option Addr) (m c : Nat) (hx : a.eval x = .slice A m c) (news : List Value) (hl : news.length = m * 5)
    (hnews : 0 < m → ∃ ad, A = some ad ∧ ∀ j u, news[j]? = some u → w.cell? (ad.add j) = some u) (h1 : ∀ u ∈ news, u.oneCell' = true) (hN : n + m ≤ 1000000) (hbase : base ≤ w.heap.size)
    (h : ∀ v' w', OwnG w' base v' (n + m) (xs ++ news) → w.grownBy w' v.ownBlock → (v'.ownBlock = v.ownBlock ∨ v'.ownBlock = some w.heap.size) → (∀ g c, v = .slice (some ⟨g, 0, none⟩) n c → n + m ≤ c → v' = .slice (some ⟨g, 0, none⟩) (n + m) c) → wpList Try.prog ops Q rest (a.put o.dst v') w') :
    wpList Try.prog ops Q (o :: rest) a w := by
  obtain ⟨v', w', k1, k2, k3, k4, k5⟩ := run_appendP w o.type base v n xs hown A m c news hl hnews h1 hN hbase
  refine wpList_plain hgd fun K hK => ?_
  unfold Oper.wp
  simp [execOp, ho, resolve, invoke, builtin, hs, hx, k1, Result.andThen]
  exact hK _ _ (h v' w' k2 k3 k4 k5)
theorem step_appendP {E : Prop} {K : Act → World → Prop} (hgd : o.guard = none) (s x : Operand) (ho : o.op = .call { callee := .builtin .append, args := #[s, x], argTypes := #[25, 25] }) (base : Nat) (v : Value) (n : Nat) (xs : List Value) (hs : a.eval s = v) (hown : OwnG w base v n xs)
    (A : Option Addr) (m c : Nat) (hx : a.eval x = .slice A m c) (news : List Value) (hl : news.length = m * 5)
    (hnews : 0 < m → ∃ ad, A = some ad ∧ ∀ j u, news[j]? = some u → w.cell? (ad.add j) = some u) (h1 : ∀ u ∈ news, u.oneCell' = true) (hN : n + m ≤ 1000000) (hbase : base ≤ w.heap.size)
    (h : ∀ v' w', OwnG w' base v' (n + m) (xs ++ news) → w.grownBy w' v.ownBlock → (v'.ownBlock = v.ownBlock ∨ v'.ownBlock = some w.heap.size) → (∀ g c, v = .slice (some ⟨g, 0, none⟩) n c → n + m ≤ c → v' = .slice (some ⟨g, 0, none⟩) (n + m) c) → K (a.put o.dst v') w') :
    if Region.wanted o (yielded ops a.tmps) = true then Oper.wp Try.prog o a w K Q else E := by
  obtain ⟨v', w', k1, k2, k3, k4, k5⟩ := run_appendP w o.type base v n xs hown A m c news hl hnews h1 hN hbase
  have hw : Region.wanted o (yielded ops a.tmps) = true := by simp [Region.wanted, hgd]
  rw [if_pos hw]
  unfold Oper.wp
  simp [execOp, ho, resolve, invoke, builtin, hs, hx, k1, Result.andThen]
  exact h v' w' k2 k3 k4 k5
set_option maxRecDepth 100000 in
/-- append of one frame that stands in a block. -/
theorem wpList_append_fr (hgd : o.guard = none) (s x : Operand) (ho : o.op = .call { callee := .builtin .append, args := #[s, x], argTypes := #[29, 29] }) (base : Nat) (v : Value) (n : Nat) (xs : List Value) (hs : a.eval s = v) (hown : w.ownsRow base 68 19 v n xs)
    (g c : Nat) (L : List Value) (hx : a.eval x = .slice (some ⟨g, 0, none⟩) 1 c) (hA : At w g 68 L) (hL : L.length = 19) (hL1 : ∀ u ∈ L, u.oneCell' = true) (hN : n ≤ 1000000) (hbase : base ≤ w.heap.size)
    (h : ∀ v' w', w'.ownsRow base 68 19 v' (n + 1) (xs ++ L) → w.grownBy w' v.ownBlock → (v'.ownBlock = v.ownBlock ∨ v'.ownBlock = some w.heap.size) → wpList Try.prog ops Q rest (a.put o.dst v') w') :
    wpList Try.prog ops Q (o :: rest) a w := by
  obtain ⟨i, hi, hz, hsz, hby⟩ := pf_parts
  obtain ⟨v', w', k1, k2, k3, _, k5⟩ := run_append_own_at (P := Try.prog) (w := w) base 29 o.type 68 i _ 19 128 Try.underlying29 hi hz hsz hby rfl (by omega) v n xs hown ⟨g, 0, none⟩ 1 c L (by rw [hL]) (fun j u hj => by rw [Addr.add_lit, Nat.zero_add, hA.cell]; exact hj) hL1 (by unfold maxLen; omega) (by omega) hbase
  refine wpList_plain hgd fun K hK => ?_
  unfold Oper.wp
  simp [execOp, ho, resolve, invoke, builtin, hs, hx, k1, Result.andThen]
  exact hK _ _ (h v' w' k2 k3 k5)
end
theorem ufold_set : ∀ (l : List Value) (k : Nat) (C : Array Value), (l.zipIdx k).foldl (fun cs (x : Value × Nat) => cs.setIfInBounds (0 + x.2) x.1) C = (setFrom C.toList k l).toArray
  | [], k, C => by simp [setFrom]
  | v :: r, k, C => by
    rw [List.zipIdx_cons, List.foldl_cons, ufold_set r (k + 1)]
    simp [setFrom]
set_option maxRecDepth 100000 in
theorem run_bsf (w : World) (l : List Value) (hl : l.length = 19) :
    (Instr.buildSlice 29 1 #[(0, .agg l.toArray)]).run Try.prog w = .ok (.slice (some ⟨w.heap.size, 0, none⟩) 1 1) (w.alloc (.cells l.toArray 68)) := by
  obtain ⟨i, hq, hz, hs, _⟩ := pf_parts
  have hf : ∀ C : Array Value, C.size = 19 → Instr.fill (fun i => some (i * 19, 19)) C [(0, .agg l.toArray)] = some l.toArray := by
    intro C hC
    unfold Instr.fill
    simp only [Value.cells, List.size_toArray, hl, hC]
    have := ufold_set l 0 C
    rw [setFrom_all _ _ (by simp [hC, hl])] at this
    simp [Instr.fill]
    rw [← this]
    simp [Array.foldl_toList]
  have hu := Try.underlying29
  simp [Instr.buildSlice, run_underlying hu, sizeOf, typeInfo, hq, hs, zeroValue, hz, newRow]
  rw [hf _ (by simp [frL])]
  simp
section
variable {ops : Array Oper} {rest : List Oper} {a : Act} {w : World} {Q : Exit → Act → World → Prop} {dst : Option Tmp} {x : Operand} {t : TypeId} {pos : String} {after : Array Edge}
theorem wpList_bsf (l : List Value) (g : Nat) (hg : g = w.heap.size) (hx : a.eval x = .agg l.toArray) (hl : l.length = 19) (h : wpList Try.prog ops Q rest (a.put dst (.slice (some ⟨g, 0, none⟩) 1 1)) (w.alloc (.cells l.toArray 68))) :
    wpList Try.prog ops Q (⟨dst, .buildSlice 29 1 #[(0, x)], t, pos, after, none⟩ :: rest) a w := by
  subst hg
  refine wpList_plain rfl fun K hK => ?_
  unfold Oper.wp
  simp [execOp, hx, run_bsf w l hl, Result.andThen]
  exact hK _ _ h
end
/-- A Ping's cells. -/
def pingL : List Value := frL (FN.zero 1) .nil .nil
def pings (k : Nat) : List Value := (List.replicate k pingL).flatten
theorem pingL_len : pingL.length = 19 := rfl
theorem pingL_all : pingL.all (·.oneCell') = true := rfl
theorem pingL_one : ∀ u ∈ pingL, u.oneCell' = true := fun u hu => List.all_eq_true.1 pingL_all u hu
/-- A packet's frames: none, or one Ping, in the call's own memory. -/
structure FrOk (w : World) (base : Nat) (r : PK) : Prop where
  own : w.ownsRow base 68 19 (.slice r.A r.k r.c) r.k (pings r.k)
  k1 : r.k ≤ 1
/-- No block in S holds frames. -/
def NoFr (w : World) (S : Nat → Prop) : Prop := ∀ j, S j → ∀ cur, ¬ At w j 68 cur
section
variable {w w' : World} {base : Nat} {r : PK}
theorem FrOk.keep (h : FrOk w base r) (hk : ∀ k cur, At w k 68 cur → w'.heap[k]? = w.heap[k]?) : FrOk w' base r := by
  refine ⟨⟨h.own.1, ?_⟩, h.k1⟩
  rcases h.own.2 with h0 | ⟨g, cap, cur, e, hb, hg, hr⟩
  · exact .inl h0
  · exact .inr ⟨g, cap, cur, e, hb, (hk g cur.toList hg).trans hg, hr⟩
theorem FrOk.kept {S : Nat → Prop} (h : FrOk w base r) (k : Kept S w w') (hs : NoFr w S) : FrOk w' base r := h.keep fun j cur hA => k.block j hA.lt fun hj => hs j hj cur hA
theorem FrOk.below (h : FrOk w base r) (k : Below w.heap.size w w') : FrOk w' base r := h.kept (Kept.of_below k (fun _ => False)) (fun _ h => h.elim)
theorem FrOk.base_ {base' : Nat} (h : FrOk w base r) (hb : base' ≤ base) : FrOk w base' r := by
  refine ⟨⟨h.own.1, ?_⟩, h.k1⟩
  rcases h.own.2 with h0 | ⟨g, cap, cur, e, hb', hr⟩
  · exact .inl h0
  · exact .inr ⟨g, cap, cur, e, Nat.le_trans hb hb', hr⟩
theorem FrOk.nil_ (w : World) (base : Nat) (n t s : Int) (a : Bool) : FrOk w base ⟨n, t, s, a, none, 0, 0⟩ := ⟨⟨rfl, .inl ⟨rfl, rfl⟩⟩, Nat.zero_le _⟩
theorem NoFr.of_type {w : World} {S : Nat → Prop} (h : ∀ j, S j → ∃ T cur, At w j T cur ∧ T ≠ 68) : NoFr w S := fun j hj cur hA => by
  obtain ⟨T, cur', hA', hT⟩ := h j hj
  exact hT (hA'.type_eq hA)
end
end Go.Proofs.Ytpihgikcgkipaaa
