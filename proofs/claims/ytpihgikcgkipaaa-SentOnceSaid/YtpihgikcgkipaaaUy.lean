/-
  The law's calls: Take on both sides.
-/
import Derived.Test.YtpihgikcgkipaaaUt
import Derived.Test.YtpihgikcgkipaaaUr
import Derived.Deep.CutRange
namespace Go.Proofs.Ytpihgikcgkipaaa
set_option linter.unusedVariables false
set_option linter.unusedSimpArgs false
open Go.RowKit
def zC : PC := ⟨0, 0, 0, false, 0⟩
/-- What a Take makes of a ledger, of what is compared alone. -/
def TakeR (C : List PC) (x : Int) (c : PC) (ok : Bool) (C' : List PC) : Prop :=
  (∃ i, C[i]? = some c ∧ c.n = x ∧ ok = true ∧ C' = C.take i ++ C.drop (i + 1)) ∨ ((∀ c ∈ C, c.n ≠ x) ∧ c = zC ∧ ok = false ∧ C' = C)
theorem TakeR.one {C : List PC} {x : Int} {c d : PC} {o1 o2 : Bool} {C1 C2 : List PC} (hr : C.Pairwise (fun a b => a.n < b.n)) (h1 : TakeR C x c o1 C1) (h2 : TakeR C x d o2 C2) : c = d ∧ o1 = o2 ∧ C1 = C2 := by
  rcases h1 with ⟨i, hi, hx, rfl, rfl⟩ | ⟨hn, rfl, rfl, rfl⟩
  · rcases h2 with ⟨j, hj, hy, rfl, rfl⟩ | ⟨hn, _⟩
    · have e : i = j := by
        rcases Nat.lt_trichotomy i j with h | h | h
        · have := List.pairwise_iff_getElem.1 hr i j (List.getElem?_eq_some_iff.1 hi).1 (List.getElem?_eq_some_iff.1 hj).1 h
          rw [(List.getElem?_eq_some_iff.1 hi).2, (List.getElem?_eq_some_iff.1 hj).2] at this
          omega
        · exact h
        · have := List.pairwise_iff_getElem.1 hr j i (List.getElem?_eq_some_iff.1 hj).1 (List.getElem?_eq_some_iff.1 hi).1 h
          rw [(List.getElem?_eq_some_iff.1 hi).2, (List.getElem?_eq_some_iff.1 hj).2] at this
          omega
      subst e
      rw [hi] at hj
      injection hj with hj
      exact ⟨hj, rfl, rfl⟩
    · exact absurd hx (hn c (List.mem_of_getElem? hi))
  · rcases h2 with ⟨j, hj, hy, _⟩ | ⟨_, rfl, rfl, rfl⟩
    · exact absurd hy (hn d (List.mem_of_getElem? hj))
    · exact ⟨rfl, rfl, rfl⟩
theorem TakeR.gk {nx ak : Int} {C : List PC} {x : Int} {c : PC} {ok : Bool} {C' : List PC} (h : TakeR C x c ok C') (hg : Gk nx ak C) : Gk nx ak C' := by
  rcases h with ⟨i, hi, hx, rfl, rfl⟩ | ⟨hn, rfl, rfl, rfl⟩
  · have hs : (C.take i ++ C.drop (i + 1)).Sublist C := by
      have h1 : (C.take i ++ C.drop (i + 1)).Sublist (C.take i ++ C.drop i) := (List.Sublist.refl _).append (by
        have : C.drop (i + 1) = (C.drop i).drop 1 := by rw [List.drop_drop]
        rw [this]
        exact List.drop_sublist 1 _)
      rwa [List.take_append_drop] at h1
    exact ⟨hg.rise.sublist hs, fun c hc => hg.ok c (hs.subset hc), Nat.le_trans hs.length_le hg.len, hg.nx0, hg.ak0⟩
  · exact hg
theorem rise_core {l : PL} (h : (l.map PK.core).Pairwise (fun a b => a.n < b.n)) : Rise l := by
  rw [List.pairwise_map] at h
  exact h
theorem cut_core (l : PL) (i : Nat) : (l.take i ++ l.drop (i + 1)).map PK.core = (l.map PK.core).take i ++ (l.map PK.core).drop (i + 1) := by rw [List.map_append, List.map_take, List.map_drop]
section
variable {B p q : Nat} {nx ak : Int} {hd : Bool} {v : Value} {l : PL} {w : World}
def TakeU (B p : Nat) (nx ak : Int) (hd : Bool) (v : Value) (l : PL) (x : Int) (w : World) (e : Ending) (w' : World) : Prop :=
  ∃ r ok v' l', e = .returned (.tuple #[.agg (pkC r).toArray, .bool ok]) ∧ LV w' B p nx ak hd v' l' ∧ Kept (fun j => j = p ∨ v.ownBlock = some j) w w' ∧ v'.ownBlock = v.ownBlock ∧ TakeR (l.map PK.core) x r.core ok (l'.map PK.core)
def RTakeU (B q : Nat) (nx ak : Int) (hd : Bool) (v : Value) (l : PL) (x : Int) (w : World) (e : Ending) (w' : World) : Prop :=
  ∃ r ok v' l', e = .returned (.tuple #[.agg (pkC r).toArray, .bool ok]) ∧ RV w' B q nx ak hd v' l' ∧ Kept (· = q) w w' ∧ (∀ j, v'.ownBlock = some j → v.ownBlock = some j ∨ w.heap.size ≤ j) ∧ TakeR (l.map PK.core) x r.core ok (l'.map PK.core)
theorem stakeU (hs : LV w B p nx ak hd v l) (x : Int) (hg : Gk nx ak (l.map PK.core)) : Calls Try.prog 21 #[.pointer (some ⟨p, 0, none⟩), .int .u64 x] w (TakeU B p nx ak hd v l x w) :=
  (stake_any hs x (by rw [len_core]; exact hg.len) (rise_core hg.rise)).mono fun e w' h => by
    rcases h with ⟨i, r, hi, hx, he, v', h1, h2, h3⟩ | ⟨hn, he, hb⟩
    · exact ⟨r, true, v', _, he, h1, h2, h3, .inl ⟨i, by rw [List.getElem?_map, hi]; rfl, hx, rfl, cut_core l i⟩⟩
    · exact ⟨PK.zero, false, v, l, he, hs.below hb, Kept.of_below hb _, rfl, .inr ⟨fun c hc => by obtain ⟨r, hr, e⟩ := List.mem_map.1 hc; rw [← e]; exact hn r hr, rfl, rfl, rfl⟩⟩
theorem rtakeU (hs : RV w B q nx ak hd v l) (x : Int) (hg : Gk nx ak (l.map PK.core)) : Calls Try.prog 22 #[.pointer (some ⟨q, 0, none⟩), .int .u64 x] w (RTakeU B q nx ak hd v l x w) :=
  (rtake_any hs x (by rw [len_core]; exact hg.len)).mono fun e w' h => by
    rcases h with ⟨i, r, hi, hx, he, v', h1, h2, h3⟩ | ⟨hn, he, hb⟩
    · exact ⟨r, true, v', _, he, h1, h2, fun j hj => .inr (h3 j hj), .inl ⟨i, by rw [List.getElem?_map, hi]; rfl, hx, rfl, cut_core l i⟩⟩
    · exact ⟨PK.zero, false, v, l, he, hs.below hb, Kept.of_below hb _, fun j hj => .inl hj, .inr ⟨fun c hc => by obtain ⟨r, hr, e⟩ := List.mem_map.1 hc; rw [← e]; exact hn r hr, rfl, rfl, rfl⟩⟩
end
end Go.Proofs.Ytpihgikcgkipaaa
