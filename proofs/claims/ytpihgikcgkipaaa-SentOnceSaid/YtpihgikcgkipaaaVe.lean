/-
  The law's calls, any kind.
-/
import Derived.Test.YtpihgikcgkipaaaVc
import Derived.Test.YtpihgikcgkipaaaVd
namespace Go.Proofs.Ytpihgikcgkipaaa
set_option linter.unusedVariables false
/-- What a call that came in holds: its rows can be read. -/
structure AskOk (w : World) (x : AX) (P : Nat → Prop) (rs : RL) (xs : List Int) : Prop where
  hu : UnP w x.ro.A x.ro.n xs
  huc : x.ro.n ≤ x.ro.c ∧ x.ro.c ≤ maxLen
  hr : RnP w P x.r.A x.r.n rs
  hrc : x.r.n ≤ x.r.c ∧ x.r.c ≤ maxLen
  hf : 0 ≤ x.from_ ∧ x.from_ < 18446744073709551616
  hsk : -9223372036854775808 ≤ x.skip ∧ x.skip < 9223372036854775808
theorem do_any {w0 : GW} {w : World} {B p q : Nat} {nx ak : Int} {hd : Bool} {v1 v2 : Value} {l1 l2 : PL} (h : Sx w0 w B p q nx ak hd v1 v2 l1 l2) (k : Int) (x : AX) (P : Nat → Prop) (rs : RL) (xs : List Int) (hx : AskOk w x P rs xs) (hPp : ¬ P p) (hPq : ¬ P q) :
    Calls Try.prog 8 #[.pointer (some ⟨p, 0, none⟩), .pointer (some ⟨q, 0, none⟩), .agg (axL k x).toArray] w fun e w' => e = .returned (.bool true) ∧ St w0 w' B p q := by
  by_cases h5 : k = 5
  · subst h5; exact do_ack5 h x xs hx.hu hx.huc hx.hf
  by_cases h6 : k = 6
  · subst h6; exact do_ack6 h x xs hx.hu hx.huc hx.hf
  by_cases h9 : k = 9
  · subst h9; exact do_ack9 h x P rs xs hx.hu hx.huc hx.hr hPp hPq hx.hrc hx.hf
  by_cases h7 : k = 7
  · subst h7; exact do_take h x hx.hf
  by_cases h10 : k = 10
  · subst h10; exact do_clear h x
  exact do_add h k x (by simpa using h5) (by simpa using h6) (by simpa using h9) (by simpa using h7) (by simpa using h10) hx.hsk
end Go.Proofs.Ytpihgikcgkipaaa
