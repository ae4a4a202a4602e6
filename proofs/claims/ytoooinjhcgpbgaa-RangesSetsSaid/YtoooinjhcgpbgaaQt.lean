/-
  The document's Cut.
-/
import Derived.Test.YtoooinjhcgpbgaaQs
namespace Go.Proofs.Ytoooinjhcgpbgaa
set_option linter.unusedVariables false
set_option linter.unusedSimpArgs false
open Go.RowKit
theorem cutP_len (lo hi : Int) (r : Int × Int) : (cutP lo hi r).length ≤ 2 := by
  unfold cutP
  split <;> split <;> simp
theorem flatP_len (lo hi : Int) : ∀ B : RL, (B.flatMap (cutP lo hi)).length ≤ 2 * B.length
  | [] => Nat.zero_le _
  | r :: t => by
    have h1 := cutP_len lo hi r
    have h2 := flatP_len lo hi t
    rw [List.flatMap_cons, List.length_append, List.length_cons]
    omega
theorem flat_next {l : RL} {i : Nat} {r : Int × Int} (f : Int × Int → RL) (h : l[i]? = some r) : (l.take (i + 1)).flatMap f = (l.take i).flatMap f ++ f r := by
  rw [List.take_add_one, h, List.flatMap_append]
  simp
set_option maxHeartbeats 4000000 in
set_option maxRecDepth 100000 in
theorem rcut_any (base : Nat) (v : Value) (l : RL) (w : World) (hl : OwnL w base v l) (hn : l.length ≤ 500000) (hbs : base ≤ w.heap.size) (hg : Gd l) (lo hi most : Int) (h0 : 0 ≤ lo) (h1 : lo < 18446744073709551616) (h2 : 0 ≤ hi) (h3 : hi < 18446744073709551616) (hm : -9223372036854775808 ≤ most ∧ most < 9223372036854775808) :
    Calls Try.prog 20 #[v, .int .u64 lo, .int .u64 hi, .int .i64 most] w (LPost base v (cutL l lo hi most) w) := by
  unfold cutL
  by_cases hlh : hi ≤ lo
  · rw [if_pos hlh]
    have HL := Lib.hid hl
    obtain ⟨A, c, rfl, hnc, hcm⟩ := hl.shape
    clear hl
    generalize l.length = n at *
    go_enter Try.func20, Try.ntmps20
    go_wp2
    go_ret
    exact ⟨_, rfl, HL.out, Below.refl _ _, fun k hk => .inl hk⟩
  rw [if_neg hlh]
  have hlt0 : lo < hi := by omega
  have HL := Lib.hid hl
  have HG := Lib.hid hg
  obtain ⟨A, c, rfl, hnc, hcm⟩ := hl.shape
  have hT : l.take l.length = l := List.take_length
  obtain ⟨n, hnl⟩ : ∃ n, l.length = n := ⟨_, rfl⟩
  have HN := Lib.hid hnl
  have HT := Lib.hid hT
  have HFL := Lib.hid (flatP_len lo hi l)
  rw [hnl] at hnc hn
  rw [hnl] at HL HT HFL ⊢
  clear hnl hT hl hg
  go_enter Try.func20, Try.ntmps20
  go_wp2
  go_loopg [9, 10] n (fun kx s9 s10 wr => ∃ (i : Nat) (v9 : Value), v9 = s9 ∧ s10 = .int .i64 i ∧ i ≤ n ∧ n - i ≤ kx ∧ Below w.heap.size w wr ∧ OwnL wr w.heap.size v9 ((l.take i).flatMap (cutP lo hi)))
  case atStart => exact ⟨0, _, rfl, rfl, Nat.zero_le _, by omega, Below.refl _ _, OwnL.nil_ _ _⟩
  case round =>
    obtain ⟨i, v9, rfl, rfl, hin, hk, hB, hO⟩ := hrel
    by_cases hlt : i < n
    · obtain ⟨r, hi2⟩ : ∃ r, l[i]? = some r := ⟨_, List.getElem?_eq_getElem (by rw [HN.out]; exact hlt)⟩
      have hok := HG.out.1 r (List.mem_of_getElem? hi2)
      unfold OkR at hok
      have HNX := Lib.hid (flat_next (cutP lo hi) hi2)
      have hlen := flatP_len lo hi (l.take i)
      have hlen2 : (l.take i).length ≤ i := by rw [List.length_take]; omega
      obtain ⟨g, rfl⟩ := HL.out.at_ hi2
      have HI := Lib.hid hi2
      have HELF := Lib.hid (fun W (hB : Below w.heap.size w W) => (HL.out.below hB).el hi2)
      clear hi2
      have hiz : (i : Int) < (n : Int) := by omega
      have HLEN := Lib.hid (show ((l.take i).flatMap (cutP lo hi)).length ≤ 2 * i by omega)
      clear hlen hlen2
      generalize (l.take i).flatMap (cutP lo hi) = L at *
      obtain ⟨a, b⟩ := r
      simp only at hok
      obtain ⟨he1, he2⟩ := HELF.out wr hB
      (try simp only at he1 he2)
      have HO := Lib.hid hO
      have HB := Lib.hid hB
      clear hB hO
      go_wp2_with fail
      go_quiet (fail)
      generalize hW : World.drewN wr _ = Wa
      have hB2 : Below w.heap.size w Wa := by subst hW; exact ⟨HB.out.os, HB.out.tape, HB.out.output, HB.out.size, HB.out.block⟩
      have hO2 : OwnL Wa w.heap.size v9 L := by subst hW; exact HO.out.keep fun _ _ => rfl
      clear hW he1 he2 HB HO
      have HO := Lib.hid hO2
      have HB := Lib.hid hB2
      clear hB2 hO2
      by_cases k1 : b ≤ lo
      · have hX : cutP lo hi (a, b) = ([(a, b)] : RL) := by
          unfold cutP
          simp only
          rw [if_pos (show a < min b lo by omega), show min b lo = b by omega]
          rw [if_neg (show ¬ max a hi < b by omega)]
          rfl
        have HX := Lib.hid hX.symm
        clear hX
        have f1 : ¬ lo < b := by omega
        have f2 : a < b := by omega
        have f3 : a < hi := by omega
        have f4 : ¬ hi < b := by omega
        have S0 := Lib.hid (stp2 HO.out HB.out a b)
        go_wp2_with (first
          | (at_builtin; refine wpList_append2 rfl (.tmp 38) (.tmp 44) rfl w.heap.size _ (L).length (rlC (L)) rfl S0.out.1 (some ⟨_, 0, none⟩) 1 1 rfl [.int .u64 a, .int .u64 b] rfl (fun _ => ⟨_, rfl, new2 _ _ (by simp) _ _ _⟩) (one2 _ _) (by have := HLEN.out; (try simp only [List.length_append, List.length_singleton]); omega) S0.out.2 ?_; intro v2 w2 hown2 hg2 hv2 _; obtain ⟨hO2, hB2⟩ := aft2 HO.out HB.out (WdL.one (by omega) (by omega) (by omega) (by omega)) hown2 hg2; have P1O := Lib.hid hO2; have P1B := Lib.hid hB2; clear hown2 hg2 hv2 hO2 hB2)
          | fail)
        go_roundg (n - (i + 1))
        case measure => omega
        case rel => exact ⟨i + 1, _, rfl, by simp, by omega, by omega, P1B.out, by rw [HNX.out, ← HX.out]; exact P1O.out⟩
      · by_cases k2 : a < lo
        · by_cases k3 : hi < b
          · have hX : cutP lo hi (a, b) = ([(a, lo), (hi, b)] : RL) := by
              unfold cutP
              simp only
              rw [if_pos (show a < min b lo by omega), show min b lo = lo by omega]
              rw [if_pos (show max a hi < b by omega), show max a hi = hi by omega]
              rfl
            have HX := Lib.hid hX.symm
            clear hX
            have f1 : lo < b := by omega
            have f3 : a < hi := by omega
            have S0 := Lib.hid (stp2 HO.out HB.out a lo)
            go_wp2_with (first
              | (at_builtin; refine wpList_append2 rfl (.tmp 38) (.tmp 44) rfl w.heap.size _ (L).length (rlC (L)) rfl S0.out.1 (some ⟨_, 0, none⟩) 1 1 rfl [.int .u64 a, .int .u64 lo] rfl (fun _ => ⟨_, rfl, new2 _ _ (by simp) _ _ _⟩) (one2 _ _) (by have := HLEN.out; (try simp only [List.length_append, List.length_singleton]); omega) S0.out.2 ?_; intro v2 w2 hown2 hg2 hv2 _; obtain ⟨hO2, hB2⟩ := aft2 HO.out HB.out (WdL.one (by omega) (by omega) (by omega) (by omega)) hown2 hg2; have P1O := Lib.hid hO2; have P1B := Lib.hid hB2; have S1 := Lib.hid (stp2 hO2 hB2 hi b); clear hown2 hg2 hv2 hO2 hB2)
              | (at_builtin; refine wpList_append2 rfl (.tmp 51) (.tmp 57) rfl w.heap.size _ (L ++ [(a, lo)]).length (rlC (L ++ [(a, lo)])) rfl S1.out.1 (some ⟨_, 0, none⟩) 1 1 rfl [.int .u64 hi, .int .u64 b] rfl (fun _ => ⟨_, rfl, new2 _ _ (by simp) _ _ _⟩) (one2 _ _) (by have := HLEN.out; (try simp only [List.length_append, List.length_singleton]); omega) S1.out.2 ?_; intro v2 w2 hown2 hg2 hv2 _; obtain ⟨hO2, hB2⟩ := aft2 P1O.out P1B.out (WdL.one (by omega) (by omega) (by omega) (by omega)) hown2 hg2; have P2O := Lib.hid hO2; have P2B := Lib.hid hB2; clear hown2 hg2 hv2 hO2 hB2)
              | fail)
            go_roundg (n - (i + 1))
            case measure => omega
            case rel => exact ⟨i + 1, _, rfl, by simp, by omega, by omega, P2B.out, by rw [HNX.out, ← HX.out]; have h := P2O.out; rw [List.append_assoc] at h; exact h⟩
          · have hX : cutP lo hi (a, b) = ([(a, lo)] : RL) := by
              unfold cutP
              simp only
              rw [if_pos (show a < min b lo by omega), show min b lo = lo by omega]
              rw [if_neg (show ¬ max a hi < b by omega)]
              rfl
            have HX := Lib.hid hX.symm
            clear hX
            have f1 : lo < b := by omega
            have f3 : a < hi := by omega
            have S0 := Lib.hid (stp2 HO.out HB.out a lo)
            go_wp2_with (first
              | (at_builtin; refine wpList_append2 rfl (.tmp 38) (.tmp 44) rfl w.heap.size _ (L).length (rlC (L)) rfl S0.out.1 (some ⟨_, 0, none⟩) 1 1 rfl [.int .u64 a, .int .u64 lo] rfl (fun _ => ⟨_, rfl, new2 _ _ (by simp) _ _ _⟩) (one2 _ _) (by have := HLEN.out; (try simp only [List.length_append, List.length_singleton]); omega) S0.out.2 ?_; intro v2 w2 hown2 hg2 hv2 _; obtain ⟨hO2, hB2⟩ := aft2 HO.out HB.out (WdL.one (by omega) (by omega) (by omega) (by omega)) hown2 hg2; have P1O := Lib.hid hO2; have P1B := Lib.hid hB2; clear hown2 hg2 hv2 hO2 hB2)
              | fail)
            go_roundg (n - (i + 1))
            case measure => omega
            case rel => exact ⟨i + 1, _, rfl, by simp, by omega, by omega, P1B.out, by rw [HNX.out, ← HX.out]; exact P1O.out⟩
        · by_cases k3 : a < hi
          · by_cases k4 : hi < b
            · have hX : cutP lo hi (a, b) = ([(hi, b)] : RL) := by
                unfold cutP
                simp only
                rw [if_neg (show ¬ a < min b lo by omega)]
                rw [if_pos (show max a hi < b by omega), show max a hi = hi by omega]
                rfl
              have HX := Lib.hid hX.symm
              clear hX
              have f1 : lo < b := by omega
              have S0 := Lib.hid (stp2 HO.out HB.out hi b)
              go_wp2_with (first
                | (at_builtin; refine wpList_append2 rfl (.tmp 51) (.tmp 57) rfl w.heap.size _ (L).length (rlC (L)) rfl S0.out.1 (some ⟨_, 0, none⟩) 1 1 rfl [.int .u64 hi, .int .u64 b] rfl (fun _ => ⟨_, rfl, new2 _ _ (by simp) _ _ _⟩) (one2 _ _) (by have := HLEN.out; (try simp only [List.length_append, List.length_singleton]); omega) S0.out.2 ?_; intro v2 w2 hown2 hg2 hv2 _; obtain ⟨hO2, hB2⟩ := aft2 HO.out HB.out (WdL.one (by omega) (by omega) (by omega) (by omega)) hown2 hg2; have P2O := Lib.hid hO2; have P2B := Lib.hid hB2; clear hown2 hg2 hv2 hO2 hB2)
                | fail)
              go_roundg (n - (i + 1))
              case measure => omega
              case rel => exact ⟨i + 1, _, rfl, by simp, by omega, by omega, P2B.out, by rw [HNX.out, ← HX.out]; exact P2O.out⟩
            · have hX : cutP lo hi (a, b) = ([] : RL) := by
                unfold cutP
                simp only
                rw [if_neg (show ¬ a < min b lo by omega)]
                rw [if_neg (show ¬ max a hi < b by omega)]
                simp
              have HX := Lib.hid hX.symm
              clear hX
              have f1 : lo < b := by omega
              go_wp2
              go_roundg (n - (i + 1))
              case measure => omega
              case rel => exact ⟨i + 1, _, rfl, by simp, by omega, by omega, HB.out, by rw [HNX.out, ← HX.out]; rw [List.append_nil]; exact HO.out⟩
          · have hX : cutP lo hi (a, b) = ([(a, b)] : RL) := by
              unfold cutP
              simp only
              rw [if_neg (show ¬ a < min b lo by omega)]
              rw [if_pos (show max a hi < b by omega), show max a hi = a by omega]
              rfl
            have HX := Lib.hid hX.symm
            clear hX
            have f1 : lo < b := by omega
            have f2 : a < b := by omega
            have S0 := Lib.hid (stp2 HO.out HB.out a b)
            go_wp2_with (first
              | (at_builtin; refine wpList_append2 rfl (.tmp 51) (.tmp 57) rfl w.heap.size _ (L).length (rlC (L)) rfl S0.out.1 (some ⟨_, 0, none⟩) 1 1 rfl [.int .u64 a, .int .u64 b] rfl (fun _ => ⟨_, rfl, new2 _ _ (by simp) _ _ _⟩) (one2 _ _) (by have := HLEN.out; (try simp only [List.length_append, List.length_singleton]); omega) S0.out.2 ?_; intro v2 w2 hown2 hg2 hv2 _; obtain ⟨hO2, hB2⟩ := aft2 HO.out HB.out (WdL.one (by omega) (by omega) (by omega) (by omega)) hown2 hg2; have P2O := Lib.hid hO2; have P2B := Lib.hid hB2; clear hown2 hg2 hv2 hO2 hB2)
              | fail)
            go_roundg (n - (i + 1))
            case measure => omega
            case rel => exact ⟨i + 1, _, rfl, by simp, by omega, by omega, P2B.out, by rw [HNX.out, ← HX.out]; exact P2O.out⟩
    · rw [show i = n by omega, HT.out] at hO
      have hiz : ¬ (i : Int) < (n : Int) := by omega
      have HO := Lib.hid hO
      have HB := Lib.hid hB
      have hb2 := hB.size
      clear hO hB
      go_wp2_with (go_at_call 31; refine (least_any w.heap.size _ (l.flatMap (cutP lo hi)) wr HO.out (by have := HFL.out; omega) hb2 most hm).mono ?_; rintro e w3 ⟨v3, rfl, hO3, hB3, _⟩)
      go_ret
      refine ⟨v3, rfl, hO3.base_ hbs, HB.out.trans (hB3.mono HB.out.size), fun k hk => .inr (hO3.lt k hk).1⟩
end Go.Proofs.Ytoooinjhcgpbgaa
