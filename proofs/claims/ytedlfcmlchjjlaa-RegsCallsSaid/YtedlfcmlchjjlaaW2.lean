
/- What the functions of package wide answer. -/
import Derived.Test.YtedlfcmlchjjlaaW1
import Derived.Test.YtedlfcmlchjjlaaU3
namespace Go.Proofs.Ytedlfcmlchjjlaa
open Go.RowKit
set_option linter.unusedSimpArgs false
set_option linter.unusedVariables false

theorem in_u16 (x : Int) : 0 ≤ IntKind.u16.wrap x ∧ IntKind.u16.wrap x < 65536 := by rw [wrap_u16]; omega

theorem w7_pair (h l : Int) (w : World) (h0 : 0 ≤ h) (h1 : h < 256) (l0 : 0 ≤ l) (l1 : l < 256) : Calls Try.prog 63 #[.int .u8 h, .int .u8 l] w fun e w' => e = .returned (.int .u16 (h * 256 + l)) ∧ w = w' := by
  have e := pair_eq h l h0 h1 l0 l1
  have E := Lib.hid e
  clear e
  go_enter Try.func63, Try.ntmps63
  go_wp2
  go_ret
  exact ⟨ret_u16 E.out, rfl⟩

theorem w7_split (r : Int) (w : World) (r0 : 0 ≤ r) (r1 : r < 65536) : Calls Try.prog 73 #[.int .u16 r] w fun e w' => e = .returned (.tuple #[.int .u8 (r / 256), .int .u8 (r % 256)]) ∧ w = w' := by
  go_enter Try.func73, Try.ntmps73
  go_wp2
  go_ret2
  exact ⟨rfl, rfl⟩

end Go.Proofs.Ytedlfcmlchjjlaa
