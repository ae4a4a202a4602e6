/-
  A Stream's data as it is read (frame.readData); ranges that the call itself made; slices.Reverse.
-/
import Derived.Test.YtcobcgbpmkpljaaRd1
import Derived.BigRegion
import Derived.IntWalk
namespace Go.Proofs.Ytcobcgbpmkpljaa
set_option linter.unusedVariables false
set_option linter.unusedSimpArgs false
open Go.RowKit
def dataR (s : St) (b : Bool) : List Int := if b = true then textR s else takeR s s.1.length
def dataN (s : St) (b : Bool) : St := if b = true then textN s else takeN s s.1.length
set_option maxRecDepth 100000 in
theorem rdata_any (p : Nat) (T : TypeId) (P : Nat → Prop) (s : St) (b : Bool) (w : World) (hr : Rdr w p T P s) (hP : ∀ b, P b → b ≠ p) (hl : s.1.length ≤ 100000000000000) :
    Calls Try.prog 71 #[.pointer (some ⟨p, 0, none⟩), .bool b] w (RawPost w p T P (dataR s b) (dataN s b)) := by
  cases b with
  | true =>
    have R1 := Lib.hid (show dataR s true = textR s from rfl)
    have R2 := Lib.hid (show dataN s true = textN s from rfl)
    go_enter Try.func71, Try.ntmps71
    go_wp2_with fail
    refine (text_any p T P s w hr hP (by omega)).mono ?_
    rintro e w1 ⟨v, rfl, h1, h2, h3⟩
    obtain ⟨A, n, c, rfl⟩ := h1.shape
    go_wp2_with fail
    go_ret
    exact ⟨_, rfl, by rw [R1.out]; exact h1, by rw [R2.out]; exact h2, h3⟩
  | false =>
    have R1 := Lib.hid (show dataR s false = takeR s s.1.length from rfl)
    have R2 := Lib.hid (show dataN s false = takeN s s.1.length from rfl)
    go_enter Try.func71, Try.ntmps71
    go_wp2_with fail
    refine (left_any p T P s w hr).mono ?_
    rintro e w' ⟨rfl, rfl⟩
    go_wp2_with fail
    refine (raw_any p T P s _ w hr hP (by omega)).mono ?_
    rintro e w1 ⟨v, rfl, h1, h2, h3⟩
    obtain ⟨A, n, c, rfl⟩ := h1.shape
    go_wp2_with fail
    go_ret
    exact ⟨_, rfl, by rw [R1.out]; exact h1, by rw [R2.out]; exact h2, h3⟩
/-- The cells of ranges. -/
def rsC (rs : RS) : List Value := rs.flatMap fun r => [.int .u64 r.1, .int .u64 r.2]
theorem rsC_len : ∀ rs : RS, (rsC rs).length = rs.length * 2
  | [] => rfl
  | r :: t => by
    have := rsC_len t
    unfold rsC at *
    rw [List.flatMap_cons, List.length_append, this, List.length_cons]
    simp; omega
theorem rsC_get : ∀ (rs : RS) (i : Nat) (r : Int × Int), rs[i]? = some r → (rsC rs)[i * 2]? = some (.int .u64 r.1) ∧ (rsC rs)[i * 2 + 1]? = some (.int .u64 r.2)
  | [], i, r, h => by simp at h
  | x :: t, 0, r, h => by
    simp at h
    subst h
    exact ⟨rfl, rfl⟩
  | x :: t, i + 1, r, h => by
    have := rsC_get t i r (by simpa using h)
    unfold rsC at *
    rw [List.flatMap_cons]
    constructor
    · rw [show (i + 1) * 2 = [Value.int .u64 x.1, Value.int .u64 x.2].length + i * 2 by simp; omega, List.getElem?_append_right (by omega)]
      simpa using this.1
    · rw [show (i + 1) * 2 + 1 = [Value.int .u64 x.1, Value.int .u64 x.2].length + (i * 2 + 1) by simp; omega, List.getElem?_append_right (by omega)]
      simpa using this.2
theorem rsC_app (a b : RS) : rsC (a ++ b) = rsC a ++ rsC b := by unfold rsC; exact List.flatMap_append
theorem rsC_one (rs : RS) : ∀ u ∈ rsC rs, u.oneCell' = true := fun u hu => by
  unfold rsC at hu
  rw [List.mem_flatMap] at hu
  obtain ⟨r, _, h⟩ := hu
  simp at h
  rcases h with rfl | rfl <;> rfl
/-- Each bound is a number of 64 bits. -/
def Wd (rs : RS) : Prop := ∀ r ∈ rs, 0 ≤ r.1 ∧ r.1 < 18446744073709551616 ∧ 0 ≤ r.2 ∧ r.2 < 18446744073709551616
/-- The value v is a slice that the call made itself (no block below base), of the ranges rs. -/
def OwnR (w : World) (base : Nat) (v : Value) (rs : RS) : Prop := w.ownsRow base 60 2 v rs.length (rsC rs) ∧ Wd rs
theorem OwnR.open_ {w : World} {base : Nat} {v : Value} {rs : RS} (h : OwnR w base v rs) (n : Nat) (hn : rs.length = n) :
    ∃ A c, v = .slice A n c ∧ InR w (fun b => v.ownBlock = some b) ⟨A, n, c⟩ rs := by
  subst hn
  rcases h.1.2 with ⟨rfl, h0⟩ | ⟨g, cap, cur, rfl, hb, hg, h1, h2, h3, h4⟩
  · obtain rfl : rs = [] := List.eq_nil_of_length_eq_zero h0
    exact ⟨none, 0, rfl, ⟨RgP.none_ _ _ _, Nat.le_refl _, by unfold maxLen; exact Nat.zero_le _, fun _ => rfl⟩⟩
  · have hlt : g < w.heap.size := by
      rcases Nat.lt_or_ge g w.heap.size with hlt | hge
      · exact hlt
      · rw [Array.getElem?_eq_none hge] at hg; cases hg
    refine ⟨_, cap, rfl, ⟨⟨rfl, h.2, fun hp => ⟨g, 0, rfl, hlt, rfl, fun i r hr => ?_⟩⟩, h1, h2, fun e => by cases e⟩⟩
    have hi := (List.getElem?_eq_some_iff.1 hr).1
    have hq := rsC_get rs i r hr
    rw [← h4, List.getElem?_take_of_lt (by omega), List.getElem?_take_of_lt (by omega)] at hq
    rw [cell_of_row w g _ cur _ (0, 0) hg, cell_of_row w g _ cur _ (0, 0) hg, Nat.zero_add]
    simpa using hq
theorem OwnR.keep {w w' : World} {base : Nat} {v : Value} {rs : RS} (h : OwnR w base v rs) (hk : ∀ k, v.ownBlock = some k → w'.heap[k]? = w.heap[k]?) : OwnR w' base v rs := by
  refine ⟨⟨h.1.1, ?_⟩, h.2⟩
  rcases h.1.2 with h0 | ⟨g, cap, cur, rfl, h2, h3, h4⟩
  · exact .inl h0
  · exact .inr ⟨g, cap, cur, rfl, h2, (hk g rfl).trans h3, h4⟩
theorem OwnR.block_lt {w : World} {base : Nat} {v : Value} {rs : RS} (h : OwnR w base v rs) : ∀ k, v.ownBlock = some k → base ≤ k ∧ k < w.heap.size := by
  intro k hk
  rcases h.1.2 with ⟨rfl, _⟩ | ⟨g, cap, cur, rfl, h2, h3, _⟩
  · simp [Value.ownBlock] at hk
  · simp [Value.ownBlock] at hk
    subst hk
    refine ⟨h2, ?_⟩
    rcases Nat.lt_or_ge g w.heap.size with hlt | hge
    · exact hlt
    · rw [Array.getElem?_eq_none hge] at h3; cases h3
theorem OwnR.kept {S : Nat → Prop} {w w' : World} {base : Nat} {v : Value} {rs : RS} (h : OwnR w base v rs) (k : Kept S w w') (hs : ∀ j, v.ownBlock = some j → ¬ S j) : OwnR w' base v rs := h.keep fun j hj => k.block j (h.block_lt j hj).2 (hs j hj)
theorem OwnR.shape {w : World} {base : Nat} {v : Value} {rs : RS} (h : OwnR w base v rs) : ∃ A n c, v = .slice A n c := by
  obtain ⟨A, c, h, _⟩ := h.open_ _ rfl
  exact ⟨A, _, c, h⟩
theorem OwnR.base_ {w : World} {base base' : Nat} {v : Value} {rs : RS} (h : OwnR w base v rs) (hb : base' ≤ base) : OwnR w base' v rs := by
  refine ⟨⟨h.1.1, ?_⟩, h.2⟩
  rcases h.1.2 with h0 | ⟨g, cap, cur, h1, h2, h3⟩
  · exact .inl h0
  · exact .inr ⟨g, cap, cur, h1, by omega, h3⟩
/-- A literal of one range. -/
theorem OwnR.one (w : World) (base g : Nat) (a b : Int) (hg : g = w.heap.size) (hb : base ≤ g) (hw : Wd [(a, b)]) : OwnR (w.alloc (.cells #[.int .u64 a, .int .u64 b] 60)) base (.slice (some ⟨g, 0, none⟩) 1 1) [(a, b)] := by
  subst hg
  exact ⟨⟨rfl, .inr ⟨_, 1, _, rfl, hb, heap_alloc_new w _, Nat.le_refl _, by unfold maxLen; omega, rfl, rfl⟩⟩, hw⟩
theorem rg_info : (Try.prog.info? 60).map (fun i => (i.zero, i.size, i.bytes)) = some (some (.agg #[.int .u64 0, .int .u64 0]), 2, 16) := by kernel_rfl
/-- append(v, x) of one thing of more than one cell, which lies in a block of its own. -/
theorem wpList_append_1 {P : Program} {w : World} {ops : Array Oper} {rest : List Oper} {o : Oper} {a : Act} {Q : Exit → Act → World → Prop} (hgd : o.guard = none) (s x : Operand) (t : TypeId)
    (ho : o.op = .call { callee := .builtin .append, args := #[s, x], argTypes := #[t, t] })
    (base : Nat) (e : TypeId) (i : TypeInfo) (z : Value) (size bytes : Nat) (ht : P.underlying t = some (.slice e)) (hi : P.info? e = some i) (hz : i.zero = some z) (hsize : i.size = size) (hby : i.bytes = bytes) (hzs : z.cells.size = size) (hsz : 0 < size)
    (v : Value) (n : Nat) (xs : List Value) (hs : a.eval s = v) (hown : w.ownsRow base e size v n xs) (g c : Nat) (news : List Value) (T : TypeId) (hx : a.eval x = .slice (some ⟨g, 0, none⟩) 1 c) (hl : news.length = size) (hcell : At w g T news) (h1 : ∀ u ∈ news, u.oneCell' = true)
    (h63 : n + 1 ≤ maxLen) (hbytes : (n + 1) * bytes ≤ 140737488355328) (hbase : base ≤ w.heap.size)
    (h : ∀ v' w', w'.ownsRow base e size v' (n + 1) (xs ++ news) → w.grownBy w' v.ownBlock → (v'.ownBlock = v.ownBlock ∨ v'.ownBlock = some w.heap.size) → wpList P ops Q rest (a.put o.dst v') w') : wpList P ops Q (o :: rest) a w := by
  refine wpList_plain hgd fun K hK => ?_
  obtain ⟨v', w', k1, k2, k3, _, k5⟩ := run_append_own_at (P := P) (w := w) base t o.type e i z size bytes ht hi hz hsize hby hzs hsz v n xs hown ⟨g, 0, none⟩ 1 c news (by omega) (fun j u hu => by rw [addr_add, Nat.zero_add, hcell.cell, hu]) h1 h63 hbytes hbase
  unfold Oper.wp
  simp [execOp, ho, resolve, invoke, builtin, hs, hx, k1, Result.andThen]
  exact hK _ _ (h v' w' k2 k3 k5)
theorem wpList_append_r {w : World} {ops : Array Oper} {rest : List Oper} {o : Oper} {a : Act} {Q : Exit → Act → World → Prop} (hgd : o.guard = none) (s x : Operand)
    (ho : o.op = .call { callee := .builtin .append, args := #[s, x], argTypes := #[27, 27] }) (base : Nat) (v : Value) (rs : RS) (hs : a.eval s = v) (hown : OwnR w base v rs) (g c : Nat) (lo hi : Int)
    (hx : a.eval x = .slice (some ⟨g, 0, none⟩) 1 c) (hcell : At w g 60 [.int .u64 lo, .int .u64 hi]) (hwd : Wd [(lo, hi)]) (hl : rs.length ≤ 1000) (hbase : base ≤ w.heap.size)
    (h : ∀ v' w', OwnR w' base v' (rs ++ [(lo, hi)]) → w.grownBy w' v.ownBlock → (v'.ownBlock = v.ownBlock ∨ v'.ownBlock = some w.heap.size) → wpList Try.prog ops Q rest (a.put o.dst v') w') : wpList Try.prog ops Q (o :: rest) a w := by
  have hI := rg_info
  cases hq : Try.prog.info? 60 with
  | none => rw [hq] at hI; cases hI
  | some i =>
    rw [hq] at hI
    simp only [Option.map_some, Option.some.injEq, Prod.mk.injEq] at hI
    refine wpList_append_1 hgd s x _ ho base 60 i _ 2 16 Try.underlying27 hq hI.1 hI.2.1 hI.2.2 rfl (by omega) v rs.length (rsC rs) hs hown.1 g c [.int .u64 lo, .int .u64 hi] _ hx rfl hcell (fun u hu => by simp at hu; rcases hu with rfl | rfl <;> rfl) (by unfold maxLen; omega) (by omega) hbase (fun v' w' k1 k2 k3 => h v' w' ⟨?_, ?_⟩ k2 k3)
    · rw [rsC_app, List.length_append]; exact k1
    · intro r hr
      rcases List.mem_append.1 hr with hr | hr
      · exact hown.2 r hr
      · exact hwd r hr
/-- Behind t exchanges. -/
def revAt (rs : RS) (t i : Nat) : Option (Int × Int) := if i < t ∨ rs.length ≤ i + t then rs[rs.length - 1 - i]? else rs[i]?
theorem revAt_0 (rs : RS) (i : Nat) (h : i < rs.length) : revAt rs 0 i = rs[i]? := by unfold revAt; rw [if_neg (by omega)]
theorem revAt_end (rs : RS) (t : Nat) (h : rs.length ≤ 2 * t + 1) (i : Nat) (hi : i < rs.length) : revAt rs t i = rs.reverse[i]? := by
  rw [List.getElem?_reverse hi]
  unfold revAt
  split
  · rfl
  · rw [show rs.length - 1 - i = i by omega]
/-- What Reverse's loop keeps: the row's block, its cells. -/
structure RevAt (w : World) (g : Nat) (rs : RS) (t : Nat) (wr : World) : Prop where
  kp : Kept (· = g) w wr
  ex : ∃ C : List Value, At wr g 60 C
  ce : ∀ (i : Nat) (r : Int × Int), i < rs.length → revAt rs t i = some r → wr.cell? ⟨g, i * 2, none⟩ = some (.int .u64 r.1) ∧ wr.cell? ⟨g, i * 2 + 1, none⟩ = some (.int .u64 r.2)
theorem revAt_get (rs : RS) (t i : Nat) (hi : i < rs.length) : ∃ r, revAt rs t i = some r := by
  unfold revAt
  split
  · exact ⟨_, List.getElem?_eq_getElem (by omega)⟩
  · exact ⟨_, List.getElem?_eq_getElem hi⟩
theorem rev_step {w wr : World} {g : Nat} {rs : RS} {t u : Nat} {a b : Int × Int} (h : RevAt w g rs t wr) (htu : t < u) (hn : t + u + 1 = rs.length) (ha : revAt rs t t = some a) (hb : revAt rs t u = some b) :
    RevAt w g rs (t + 1) ((((wr.setCell ⟨g, t * 2, none⟩ (.int .u64 b.1)).setCell ⟨g, t * 2 + 1, none⟩ (.int .u64 b.2)).setCell ⟨g, u * 2, none⟩ (.int .u64 a.1)).setCell ⟨g, u * 2 + 1, none⟩ (.int .u64 a.2)) := by
  obtain ⟨C, hC⟩ := h.ex
  have hlen : ∀ i, i < rs.length → i * 2 + 1 < C.length := fun i hi => by
    obtain ⟨r, hr⟩ := revAt_get rs t i hi
    have := (h.ce i r hi hr).2
    rw [hC.cell] at this
    exact (List.getElem?_eq_some_iff.1 this).1
  have hD := (((hC.set (t * 2) (.int .u64 b.1)).set (t * 2 + 1) (.int .u64 b.2)).set (u * 2) (.int .u64 a.1)).set (u * 2 + 1) (.int .u64 a.2)
  have ha2 : rs[t]? = some a := by unfold revAt at ha; rw [if_neg (by omega)] at ha; exact ha
  have hb2 : rs[u]? = some b := by unfold revAt at hb; rw [if_neg (by omega)] at hb; exact hb
  refine ⟨(((h.kp.setAt _ _).setAt _ _).setAt _ _).setAt _ _, ⟨_, hD⟩, fun i r hi hr => ?_⟩
  have l1 := hlen i hi
  have lt := hlen t (by omega)
  have lu := hlen u (by omega)
  rw [hD.cell, hD.cell]
  simp only [List.getElem?_set, List.length_set]
  by_cases hit : i = t
  · subst hit
    have : r = b := by
      unfold revAt at hr
      rw [if_pos (by omega), show rs.length - 1 - i = u by omega, hb2] at hr
      injection hr with hr; exact hr.symm
    subst this
    refine ⟨?_, ?_⟩
    · rw [if_neg (by omega), if_neg (by omega), if_neg (by omega), if_pos rfl, if_pos (by omega)]
    · rw [if_neg (by omega), if_neg (by omega), if_pos rfl, if_pos (by omega)]
  · by_cases hiu : i = u
    · subst hiu
      have : r = a := by
        unfold revAt at hr
        rw [if_pos (by omega), show rs.length - 1 - i = t by omega, ha2] at hr
        injection hr with hr; exact hr.symm
      subst this
      refine ⟨?_, ?_⟩
      · rw [if_neg (by omega), if_pos rfl, if_pos (by omega)]
      · rw [if_pos rfl, if_pos (by omega)]
    · have hr' : revAt rs t i = some r := by
        unfold revAt at hr ⊢
        by_cases hc : i < t ∨ rs.length ≤ i + t
        · rw [if_pos hc]; rw [if_pos (by omega)] at hr; exact hr
        · rw [if_neg hc]; rw [if_neg (by omega)] at hr; exact hr
      have h2 := h.ce i r hi hr'
      rw [hC.cell, hC.cell] at h2
      refine ⟨?_, ?_⟩
      · rw [if_neg (by omega), if_neg (by omega), if_neg (by omega), if_neg (by omega)]; exact h2.1
      · rw [if_neg (by omega), if_neg (by omega), if_neg (by omega), if_neg (by omega)]; exact h2.2
theorem RevAt.drew {w wr : World} {g : Nat} {rs : RS} {t : Nat} (h : RevAt w g rs t wr) : RevAt w g rs t wr.drew := ⟨h.kp.drew, h.ex.imp fun _ h => h.drew, h.ce⟩
set_option maxRecDepth 100000 in
set_option maxHeartbeats 2000000 in
theorem rev_any (g n c : Nat) (rs : RS) (w : World) (hn : rs.length = n) (h1 : 1 ≤ n) (h16 : n ≤ 16) (hnc : n ≤ c) (hc : c ≤ maxLen) (h0 : RevAt w g rs 0 w) :
    Calls Try.prog 82 #[.slice (some ⟨g, 0, none⟩) n c] w fun e w' => e = .returned (.tuple #[]) ∧ ∃ t, n ≤ 2 * t + 1 ∧ RevAt w g rs t w' := by
  unfold maxLen at hc
  have HN := Lib.hid hn
  have HI := Lib.hid h0
  clear hn h0
  go_enter Try.func82, Try.ntmps82
  go_wp2_with fail
  go_loopw [2, 3] (fun i j wr => ∃ (t u : Nat), t + u + 1 = n ∧ t ≤ u + 1 ∧ i = .int .i64 t ∧ j = .int .i64 u ∧ Hid (RevAt w g rs t wr)) (fun i _ _ => n - (intOf i).toNat)
  case atStart => exact ⟨0, n - 1, by omega, by omega, rfl, by rw [show ((n - 1 : Nat) : Int) = (n : Int) - 1 by omega], HI⟩
  case round =>
    obtain ⟨t, u, htu, htu2, rfl, rfl, hat⟩ := hrel
    by_cases hlt : t < u
    · obtain ⟨a, ha⟩ := revAt_get rs t t (by rw [HN.out]; omega)
      obtain ⟨b, hb⟩ := revAt_get rs t u (by rw [HN.out]; omega)
      have ca := hat.out.ce t a (by rw [HN.out]; omega) ha
      have cb := hat.out.ce u b (by rw [HN.out]; omega) hb
      obtain ⟨ca0, ca1⟩ := ca
      obtain ⟨cb0, cb1⟩ := cb
      have hfz : ∀ k, wr.frozen? ⟨g, k, none⟩ = false := fun k => by obtain ⟨C, hC⟩ := hat.out.ex; exact hC.frozen k
      have f0 := hfz (t * 2)
      have f1 := hfz (t * 2 + 1)
      have f2 := hfz (u * 2)
      have f3 := hfz (u * 2 + 1)
      have hst := rev_step hat.out hlt (by rw [HN.out]; exact htu) ha hb
      have HST := Lib.hid hst
      have hti : (t : Int) < (n : Int) := by omega
      have hui : (u : Int) < (n : Int) := by omega
      have htl : (t : Int) < (u : Int) := by omega
      have hd : decide (t < u) = true := by simpa using hlt
      clear hst hfz ha hb hat
      obtain ⟨a1, a2⟩ := a
      obtain ⟨b1, b2⟩ := b
      go_wp2_with fail
      go_region
      go_wp2_with fail
      go_roundw
      case rel => exact ⟨t + 1, u - 1, by omega, by omega, by go_num, by rw [show ((u - 1 : Nat) : Int) = (u : Int) - 1 by omega], Lib.hid HST.out.drew⟩
      case measure => simp [intOf]; omega
    · go_wp2_with fail
      go_end0
      exact ⟨rfl, t, by omega, hat.out⟩
end Go.Proofs.Ytcobcgbpmkpljaa
