/-
  streams.marks: add's walk.
-/
import Derived.Test.YtndaikeeikimeaaMq23
namespace Go.Proofs.Ytndaikeeikimeaa
set_option linter.unusedVariables false
set_option linter.unusedSimpArgs false
open Go.RowKit
section
variable {w wr w1 : World} {base x o : Nat} {T : TypeId} {L : List Value} {v v' v9 : Value} {b : Nat} {s s' : List Bool} {g n c i : Nat}
theorem addM_len (b : Nat) (s : List Bool) (lo off : Nat) : (addM b s lo off).length = max s.length (if max lo b < off then off - b else 0) := by unfold addM; simp
theorem am_open (h : Am w wr base x o T L v b s v') : ∃ A c, v' = .slice A s.length c ∧ s.length ≤ c ∧ c ≤ maxLen ∧ (0 < s.length → ∃ g, A = some ⟨g, 0, none⟩ ∧ ∀ i u, s[i]? = some u → wr.cell? ⟨g, i, none⟩ = some (.bool u) ∧ wr.frozen? ⟨g, i, none⟩ = false) := by
  obtain ⟨A, c, e, h1, h2, h3⟩ := ow_open h.mm.own
  rw [List.length_map] at e h1
  refine ⟨A, c, e, h1, h2, fun hp => ?_⟩
  rcases h3 with ⟨_, _, h4⟩ | ⟨g, cur, rfl, hb, hlt, hA, hl, ht⟩
  · rw [List.map_eq_nil_iff] at h4; rw [h4] at hp; simp at hp
  · refine ⟨g, rfl, fun i u hu => ⟨?_, hA.frozen i⟩⟩
    have hi := (List.getElem?_eq_some_iff.1 hu).1
    rw [hA.cell]
    have : (cur.take (s.map Value.bool).length)[i]? = some (.bool u) := by rw [ht, List.getElem?_map, hu]; rfl
    rw [List.getElem?_take_of_lt (by simpa using hi)] at this
    exact this
set_option maxRecDepth 100000 in
set_option maxHeartbeats 8000000 in
theorem mk_add (h : Mk w base x o T L v b s) (hbase : base ≤ w.heap.size) (lo hi : Nat) (hlo : lo < 18446744073709551616) (hb : b ≤ 1099511640000) (hhi : hi ≤ b + 100000) (hs : s.length ≤ 100000) :
    Calls Try.prog 42 #[.pointer (some ⟨x, o, none⟩), .int .u64 lo, .int .u64 hi] w (MkPost (.tuple #[]) base x o T L v b (addM b s lo hi) w) := by
  have c0 := h.a0
  obtain ⟨f0, hf0⟩ : ∃ f, max lo b = f := ⟨_, rfl⟩
  have hmz : (if (lo : Int) < (b : Int) then (b : Int) else (lo : Int)) = (f0 : Int) := by rw [← hf0]; split <;> omega
  have HC0 := Lib.hid h.c0
  have HA : Hid (Am w w base x o T L v b (addM b s lo f0) v) := Lib.hid (by rw [addM_none b s lo f0 (by omega)]; exact Am.start h)
  have HEN : Hid (hi ≤ f0 → addM b s lo hi = addM b s lo f0) := Lib.hid (fun hh => by rw [addM_none b s lo f0 (by omega), addM_none b s lo hi (by omega)])
  have HF0 := Lib.hid hf0
  have hbf : b ≤ f0 := by omega
  clear h hf0
  have HBA := Lib.hid hbase
  rcases Nat.lt_or_ge lo b with hlt | hge
  · have hz : (lo : Int) < (b : Int) := by omega
    have hfz : (f0 : Int) = (b : Int) := by have := HF0.out; omega
    clear hmz
    go_enter Try.func42, Try.ntmps42
    go_upto_region 1 with fail
    go_loopg [6] (hi - f0) (fun kx s6 wr => ∃ (f : Nat) (v' : Value), s6 = .int .u64 f ∧ f0 ≤ f ∧ (f ≤ hi ∨ f = f0) ∧ hi - f ≤ kx ∧ Hid (Am w wr base x o T L v b (addM b s lo f) v'))
    case atStart => exact ⟨f0, v, by rw [hfz], by omega, .inr rfl, by omega, HA⟩
    case round =>
      clear HA
      obtain ⟨f, v', rfl, hff, hfh, hkx, HI⟩ := hrel
      by_cases hgo : f < hi
      · have hkz : (f : Int) < (hi : Int) := by omega
        have a0 := HI.out.mm.a0
        have a1 := HI.out.mm.a1
        obtain ⟨A, c, rfl, hnc, hcm, hg⟩ := am_open HI.out
        have hln := addM_len b s lo f
        obtain ⟨S, hS⟩ : ∃ S, addM b s lo f = S := ⟨_, rfl⟩
        have hST := addM_step b s lo f (by have := HF0.out; omega)
        rw [hS] at hln hnc hg a1 HI hST
        obtain ⟨n, hn⟩ : ∃ n, S.length = n := ⟨_, rfl⟩
        have hnb : n ≤ 200000 := by rw [← hn, hln]; split <;> omega
        rw [hn] at hnc hg a1 HI
        simp only [hn] at hST
        obtain ⟨i, hi9⟩ : ∃ i, f - b = i := ⟨_, rfl⟩
        have hiz : (f : Int) - (b : Int) = (i : Int) := by omega
        rw [hi9] at hST
        unfold maxLen at hcm
        by_cases hk : n < i + 1
        · obtain ⟨k, hk9⟩ : ∃ k, i + 1 - n = k := ⟨_, rfl⟩
          have hkk : (i : Int) + 1 - (n : Int) = (k : Int) := by omega
          have hkp : (0 : Int) < (k : Int) := by omega
          have HNX : Hid (addM b s lo (f + 1) = (S ++ List.replicate k false).set i true) := Lib.hid (by rw [hST, show f + 1 - b - n = k from by omega])
          have HOW : Hid (Ow wr base 4 (.slice A n c) (S.map Value.bool)) := Lib.hid HI.out.mm.own
          have HBS : Hid (base ≤ wr.heap.size) := Lib.hid (Nat.le_trans HBA.out HI.out.kp.size)
          have HNL : Hid ((S.map Value.bool).length = n) := Lib.hid (by rw [List.length_map, hn])
          have HKX : Hid (∀ w9, wr.grownBy w9 (Value.slice A n c).ownBlock → w9.cell? ⟨x, o + 1, none⟩ = some (.slice A n c) ∧ w9.frozen? ⟨x, o + 1, none⟩ = false) := Lib.hid (fun w9 hg9 => by
            have hA := HI.out.mm.at_.kept (Kept.of_grown (S := fun j => (Value.slice A n c).ownBlock = some j) hg9 fun k hk => .inl hk) HI.out.mm.nx
            exact ⟨by rw [hA.cell]; exact HI.out.mm.c1, hA.frozen _⟩)
          have HGR : Hid (∀ w9 g9 c9, Ow w9 base 4 (.slice (some ⟨g9, 0, none⟩) (n + k) c9) (S.map Value.bool ++ List.replicate k (.bool false)) → wr.grownBy w9 (Value.slice A n c).ownBlock → (A = some ⟨g9, 0, none⟩ ∨ g9 = wr.heap.size) →
              Am w (w9.setCell ⟨x, o + 1, none⟩ (.slice (some ⟨g9, 0, none⟩) (n + k) c9)) base x o T L v b (S ++ List.replicate k false) (.slice (some ⟨g9, 0, none⟩) (n + k) c9)) := Lib.hid (fun w9 g9 c9 ho hg hv => HI.out.grow (by rw [List.map_append, List.map_replicate]; exact ho) hg (by
                rcases hv with rfl | rfl
                · exact .inl rfl
                · exact .inr rfl))
          have HLK : Hid ((S ++ List.replicate k false).length = n + k ∧ (S ++ List.replicate k false)[i]? = some false) := Lib.hid ⟨by simp [hn], by rw [List.getElem?_append_right (by omega), List.getElem?_replicate_of_lt (by omega)]⟩
          have hik : (i : Int) < (n : Int) + (k : Int) := by omega
          have hik2 : (i : Int) < ((n + k : Nat) : Int) := by omega
          clear hST hln hg hS
          go_wp2_with (first
            | (at_builtin; refine wpList_zeros1 oBt 3 Try.underlying3 rfl (.tmp 41) (.tmp 42) rfl base n c A (S.map Value.bool) rfl HOW.out HNL.out k rfl (by omega) (by omega) HBS.out ?_; intro w9 g9 c9 ho9 hn9 hc9 hbg9 hg9 hgr9 hal9; have HM := Lib.hid (HGR.out w9 g9 c9 ho9 hgr9 hal9); obtain ⟨q1, q2⟩ := HKX.out w9 hgr9; have q3 := HM.out.mm.a1; obtain ⟨A8, c8, e8, _, _, hg8⟩ := am_open HM.out; rw [HLK.out.1] at e8 hg8; injection e8 with e8 _ e9; subst e8; subst e9; obtain ⟨g8, e8, hg8⟩ := hg8 (by omega); injection e8 with e8; injection e8 with e8; subst e8; obtain ⟨q4, q5⟩ := hg8 i _ HLK.out.2; clear ho9 hgr9 hal9 hg8)
            | fail)
          have HNW : Hid (Am w ((w9.setCell ⟨x, o + 1, none⟩ (.slice (some ⟨g9, 0, none⟩) (n + k) c9)).setCell ⟨g9, i, none⟩ (.bool true)) base x o T L v b (addM b s lo (f + 1)) (.slice (some ⟨g9, 0, none⟩) (n + k) c9)) := Lib.hid (by rw [HNX.out]; exact HM.out.set1 HLK.out.1 i)
          go_roundg (hi - (f + 1))
          case measure => omega
          case rel => exact ⟨f + 1, _, by simp, by omega, by omega, by omega, HNW⟩
        · have hkz2 : ¬ (0 : Int) < (i : Int) + 1 - (n : Int) := by omega
          obtain ⟨g, rfl, hgg⟩ := hg (by omega)
          obtain ⟨u, hu⟩ : ∃ u, S[i]? = some u := ⟨_, List.getElem?_eq_getElem (by omega)⟩
          obtain ⟨q4, q5⟩ := hgg i u hu
          have hik : (i : Int) < (n : Int) := by omega
          have HNW : Hid (Am w (wr.setCell ⟨g, i, none⟩ (.bool true)) base x o T L v b (addM b s lo (f + 1)) (.slice (some ⟨g, 0, none⟩) n c)) := Lib.hid (by
            rw [hST, show f + 1 - b - n = 0 from by omega]
            simp only [List.replicate_zero, List.append_nil]
            exact HI.out.set1 hn i)
          clear hST hln hg hgg hu hS
          go_wp2_with fail
          go_roundg (hi - (f + 1))
          case measure => omega
          case rel => exact ⟨f + 1, _, by simp, by omega, by omega, by omega, HNW⟩
      · have hkz : ¬ (f : Int) < (hi : Int) := by omega
        have HR : Hid (Am w wr base x o T L v b (addM b s lo hi) v') := Lib.hid (by
          rcases hfh with e | e
          · obtain rfl : f = hi := by omega
            exact HI.out
          · subst e
            rw [HEN.out (by omega)]
            exact HI.out)
        clear HI
        go_wp2_with fail
        go_end0
        exact HR.out.post HC0.out
  · have hz : ¬ (lo : Int) < (b : Int) := by omega
    have hfz : (f0 : Int) = (lo : Int) := by have := HF0.out; omega
    clear hmz
    go_enter Try.func42, Try.ntmps42
    go_upto_region 1 with fail
    go_loopg [6] (hi - f0) (fun kx s6 wr => ∃ (f : Nat) (v' : Value), s6 = .int .u64 f ∧ f0 ≤ f ∧ (f ≤ hi ∨ f = f0) ∧ hi - f ≤ kx ∧ Hid (Am w wr base x o T L v b (addM b s lo f) v'))
    case atStart => exact ⟨f0, v, by rw [hfz], by omega, .inr rfl, by omega, HA⟩
    case round =>
      clear HA
      obtain ⟨f, v', rfl, hff, hfh, hkx, HI⟩ := hrel
      by_cases hgo : f < hi
      · have hkz : (f : Int) < (hi : Int) := by omega
        have a0 := HI.out.mm.a0
        have a1 := HI.out.mm.a1
        obtain ⟨A, c, rfl, hnc, hcm, hg⟩ := am_open HI.out
        have hln := addM_len b s lo f
        obtain ⟨S, hS⟩ : ∃ S, addM b s lo f = S := ⟨_, rfl⟩
        have hST := addM_step b s lo f (by have := HF0.out; omega)
        rw [hS] at hln hnc hg a1 HI hST
        obtain ⟨n, hn⟩ : ∃ n, S.length = n := ⟨_, rfl⟩
        have hnb : n ≤ 200000 := by rw [← hn, hln]; split <;> omega
        rw [hn] at hnc hg a1 HI
        simp only [hn] at hST
        obtain ⟨i, hi9⟩ : ∃ i, f - b = i := ⟨_, rfl⟩
        have hiz : (f : Int) - (b : Int) = (i : Int) := by omega
        rw [hi9] at hST
        unfold maxLen at hcm
        by_cases hk : n < i + 1
        · obtain ⟨k, hk9⟩ : ∃ k, i + 1 - n = k := ⟨_, rfl⟩
          have hkk : (i : Int) + 1 - (n : Int) = (k : Int) := by omega
          have hkp : (0 : Int) < (k : Int) := by omega
          have HNX : Hid (addM b s lo (f + 1) = (S ++ List.replicate k false).set i true) := Lib.hid (by rw [hST, show f + 1 - b - n = k from by omega])
          have HOW : Hid (Ow wr base 4 (.slice A n c) (S.map Value.bool)) := Lib.hid HI.out.mm.own
          have HBS : Hid (base ≤ wr.heap.size) := Lib.hid (Nat.le_trans HBA.out HI.out.kp.size)
          have HNL : Hid ((S.map Value.bool).length = n) := Lib.hid (by rw [List.length_map, hn])
          have HKX : Hid (∀ w9, wr.grownBy w9 (Value.slice A n c).ownBlock → w9.cell? ⟨x, o + 1, none⟩ = some (.slice A n c) ∧ w9.frozen? ⟨x, o + 1, none⟩ = false) := Lib.hid (fun w9 hg9 => by
            have hA := HI.out.mm.at_.kept (Kept.of_grown (S := fun j => (Value.slice A n c).ownBlock = some j) hg9 fun k hk => .inl hk) HI.out.mm.nx
            exact ⟨by rw [hA.cell]; exact HI.out.mm.c1, hA.frozen _⟩)
          have HGR : Hid (∀ w9 g9 c9, Ow w9 base 4 (.slice (some ⟨g9, 0, none⟩) (n + k) c9) (S.map Value.bool ++ List.replicate k (.bool false)) → wr.grownBy w9 (Value.slice A n c).ownBlock → (A = some ⟨g9, 0, none⟩ ∨ g9 = wr.heap.size) →
              Am w (w9.setCell ⟨x, o + 1, none⟩ (.slice (some ⟨g9, 0, none⟩) (n + k) c9)) base x o T L v b (S ++ List.replicate k false) (.slice (some ⟨g9, 0, none⟩) (n + k) c9)) := Lib.hid (fun w9 g9 c9 ho hg hv => HI.out.grow (by rw [List.map_append, List.map_replicate]; exact ho) hg (by
                rcases hv with rfl | rfl
                · exact .inl rfl
                · exact .inr rfl))
          have HLK : Hid ((S ++ List.replicate k false).length = n + k ∧ (S ++ List.replicate k false)[i]? = some false) := Lib.hid ⟨by simp [hn], by rw [List.getElem?_append_right (by omega), List.getElem?_replicate_of_lt (by omega)]⟩
          have hik : (i : Int) < (n : Int) + (k : Int) := by omega
          have hik2 : (i : Int) < ((n + k : Nat) : Int) := by omega
          clear hST hln hg hS
          go_wp2_with (first
            | (at_builtin; refine wpList_zeros1 oBt 3 Try.underlying3 rfl (.tmp 41) (.tmp 42) rfl base n c A (S.map Value.bool) rfl HOW.out HNL.out k rfl (by omega) (by omega) HBS.out ?_; intro w9 g9 c9 ho9 hn9 hc9 hbg9 hg9 hgr9 hal9; have HM := Lib.hid (HGR.out w9 g9 c9 ho9 hgr9 hal9); obtain ⟨q1, q2⟩ := HKX.out w9 hgr9; have q3 := HM.out.mm.a1; obtain ⟨A8, c8, e8, _, _, hg8⟩ := am_open HM.out; rw [HLK.out.1] at e8 hg8; injection e8 with e8 _ e9; subst e8; subst e9; obtain ⟨g8, e8, hg8⟩ := hg8 (by omega); injection e8 with e8; injection e8 with e8; subst e8; obtain ⟨q4, q5⟩ := hg8 i _ HLK.out.2; clear ho9 hgr9 hal9 hg8)
            | fail)
          have HNW : Hid (Am w ((w9.setCell ⟨x, o + 1, none⟩ (.slice (some ⟨g9, 0, none⟩) (n + k) c9)).setCell ⟨g9, i, none⟩ (.bool true)) base x o T L v b (addM b s lo (f + 1)) (.slice (some ⟨g9, 0, none⟩) (n + k) c9)) := Lib.hid (by rw [HNX.out]; exact HM.out.set1 HLK.out.1 i)
          go_roundg (hi - (f + 1))
          case measure => omega
          case rel => exact ⟨f + 1, _, by simp, by omega, by omega, by omega, HNW⟩
        · have hkz2 : ¬ (0 : Int) < (i : Int) + 1 - (n : Int) := by omega
          obtain ⟨g, rfl, hgg⟩ := hg (by omega)
          obtain ⟨u, hu⟩ : ∃ u, S[i]? = some u := ⟨_, List.getElem?_eq_getElem (by omega)⟩
          obtain ⟨q4, q5⟩ := hgg i u hu
          have hik : (i : Int) < (n : Int) := by omega
          have HNW : Hid (Am w (wr.setCell ⟨g, i, none⟩ (.bool true)) base x o T L v b (addM b s lo (f + 1)) (.slice (some ⟨g, 0, none⟩) n c)) := Lib.hid (by
            rw [hST, show f + 1 - b - n = 0 from by omega]
            simp only [List.replicate_zero, List.append_nil]
            exact HI.out.set1 hn i)
          clear hST hln hg hgg hu hS
          go_wp2_with fail
          go_roundg (hi - (f + 1))
          case measure => omega
          case rel => exact ⟨f + 1, _, by simp, by omega, by omega, by omega, HNW⟩
      · have hkz : ¬ (f : Int) < (hi : Int) := by omega
        have HR : Hid (Am w wr base x o T L v b (addM b s lo hi) v') := Lib.hid (by
          rcases hfh with e | e
          · obtain rfl : f = hi := by omega
            exact HI.out
          · subst e
            rw [HEN.out (by omega)]
            exact HI.out)
        clear HI
        go_wp2_with fail
        go_end0
        exact HR.out.post HC0.out
end
end Go.Proofs.Ytndaikeeikimeaa
