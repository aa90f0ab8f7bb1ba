
/- What the document's own answers of chapter 7 are. -/
import Derived.Test.YtedlfcmlchjjlaaW1
import Derived.Test.YtedlfcmlchjjlaaU5
namespace Go.Proofs.Ytedlfcmlchjjlaa
open Go.RowKit
set_option linter.unusedSimpArgs false
set_option linter.unusedVariables false

theorem div256 (r : Int) (r0 : 0 ≤ r) (r1 : r < 65536) : IntKind.u16.wrap (r.tdiv 256) = r / 256 := by
  rw [wrap_u16, Int.tdiv_eq_ediv_of_nonneg r0]; omega
theorem mod256 (r : Int) (r0 : 0 ≤ r) (r1 : r < 65536) : r / 256 % 256 = r / 256 := by omega
theorem r4_in (x : Int) : 0 ≤ IntKind.u16.wrap x ∧ IntKind.u16.wrap x < 65536 := by rw [wrap_u16]; omega

theorem r7_pair (h l : Int) (w : World) (h0 : 0 ≤ h) (h1 : h < 256) (l0 : 0 ≤ l) (l1 : l < 256) : Calls Try.prog 53 #[.int .u8 h, .int .u8 l] w fun e w' => e = .returned (.int .u16 (h * 256 + l)) ∧ w = w' := by
  go_enter Try.func53, Try.ntmps53
  go_wp2
  go_ret
  exact ⟨ret_u16 (by simp only [wrap_u16] <;> omega), rfl⟩

theorem r7_split (r : Int) (w : World) (r0 : 0 ≤ r) (r1 : r < 65536) : Calls Try.prog 48 #[.int .u16 r] w fun e w' => e = .returned (.tuple #[.int .u8 (r / 256), .int .u8 (r % 256)]) ∧ w = w' := by
  have q1 := div256 r r0 r1
  have q2 := mod256 r r0 r1
  go_enter Try.func48, Try.ntmps48
  go_wp2
  go_ret2
  exact ⟨rfl, rfl⟩

end Go.Proofs.Ytedlfcmlchjjlaa
