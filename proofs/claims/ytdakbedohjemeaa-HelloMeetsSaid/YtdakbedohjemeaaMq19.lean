/-
  encodes, decodes of params: what the program writes and reads, of any, the document's own does; some of the runs.
-/
import Derived.Test.YtdakbedohjemeaaPr
import Derived.Test.YtdakbedohjemeaaPq
import Derived.Test.YtdakbedohjemeaaMq18
import Derived.IntWalk
import Derived.Test.YtdakbedohjemeaaMq0
import Derived.Test.YtdakbedohjemeaaRefInts
namespace Go.Proofs.Ytdakbedohjemeaa
section
set_option linter.unusedVariables false
set_option linter.unusedSimpArgs false
open Go.RowKit Go.ChangeShapes Go.WideShapes Go.Deep
end
section
set_option linter.unusedVariables false
open Go.RowKit
def cidX (n : Int) : Int := withinS n 0 1048576 % 5
set_option maxRecDepth 100000 in
set_option maxHeartbeats 1000000 in
theorem cidk_any (n : Int) (w : World) (hn0 : -9223372036854775808 ≤ n) (hn1 : n ≤ 9223372036854775807) (hb : 0 ≤ withinS n 0 1048576 ∧ withinS n 0 1048576 ≤ 1048576) :
    Calls Try.prog 31 #[.int .i64 n] w (FrPost (.agg #[.int .u8 1, .int .u8 (cidX n), .int .u8 7, .int .u8 0, .int .u8 0, .int .u8 0, .int .u8 0, .int .u8 0]) w) := by
  have HW := fun W => within_any n 0 1048576 W hn0 hn1 (by omega) (by omega) (by omega)
  have hB := fun o => (Below.refl w.heap.size w).alloc (Nat.le_refl _) o
  have hx : withinS n 0 1048576 % 5 = cidX n := rfl
  obtain ⟨h, hh⟩ : ∃ x, withinS n 0 1048576 = x := ⟨_, rfl⟩
  rw [hh] at HW hb hx
  obtain ⟨h0, h1⟩ := hb
  have hx0 : 0 ≤ h % 5 := by omega
  have hx1 : h % 5 < 256 := by omega
  have ht : h.tmod 5 = h % 5 := Int.tmod_eq_emod_of_nonneg h0
  obtain ⟨x, hxx⟩ : ∃ x, h % 5 = x := ⟨_, rfl⟩
  rw [hxx] at hx hx0 hx1 ht
  have HX := Lib.hid hx
  clear hh hxx hx
  go_enter Try.func31, Try.ntmps31
  go_wp2_with fail
  refine (HW _).mono ?_
  rintro e w' ⟨rfl, rfl⟩
  go_wp2_with fail
  have hA := At.new w 24 [.int .u8 1, .int .u8 x, .int .u8 7, .int .u8 0, .int .u8 0, .int .u8 0, .int .u8 0, .int .u8 0]
  refine bodyPost_ret (results_cell 2 24 (by rfl) _ 24 _ _ (by rfl) hA Try.underlying24 rfl (by kernel_rfl)) rfl ?_
  exact ⟨by rw [← HX.out], hB _⟩
end
end Go.Proofs.Ytdakbedohjemeaa
